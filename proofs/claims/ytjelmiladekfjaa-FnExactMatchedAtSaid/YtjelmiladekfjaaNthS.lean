/- MatchedAt of the model, and both sides. -/
import Derived.Test.YtjelmiladekfjaaNthI
import Derived.Test.YtjelmiladekfjaaRankS0
import Derived.Test.YtjelmiladekfjaaTurn
namespace Go.Proofs.Ytjelmiladekfjaa
open Go.RowKit
set_option linter.unusedVariables false

theorem symT_at' {x : Nat} (h : x < 6) : (({ data := #[40, 91, 41, 93, 97, 98] } : ByteArray)[x]'h).toNat = (byN x).toNat := by
  obtain rfl | rfl | rfl | rfl | rfl | rfl : x = 0 ∨ x = 1 ∨ x = 2 ∨ x = 3 ∨ x = 4 ∨ x = 5 := by omega
  all_goals rfl

set_option maxHeartbeats 12800000 in
set_option maxRecDepth 100000 in
theorem spec_Nth_yes (n k0 : Nat) (w : World) (hn : n ≤ 20) (hk0 : k0 < wy n 0) :
    Calls Try.prog 12 #[.int .i64 (n : Int), .int .i64 (k0 : Int)] w (TupPost (.tuple #[.string (textN (nth n 0 k0)), .int .i64 0]) w) := by
  obtain ⟨i0, hi, hz0, hz1, hz2⟩ := info_parts info_u8
  have hwt := wy_top hn 0
  have Hin := Lib.hid (fun W => in_yes (n : Int) 0 20 W (by omega) (by omega))
  have Hin2 := Lib.hid (fun W => in_yes (k0 : Int) 0 ((wy n 0 : Int) - 1) W (by omega) (by omega))
  have Hw := Lib.hid (fun W => spec_ways n W hn)
  have Hstart := Lib.hid (NthAt.start hk0)
  have hwn : IntKind.i64.wrap ((wy n 0 : Int) - 1) = (wy n 0 : Int) - 1 := wrap_nth (by omega)
  go_enter Try.func12, Try.ntmps12
  go_wp2_with fail
  refine (Hin.out _).mono ?_
  rintro e w0 ⟨rfl, rfl⟩
  go_wp2_with fail
  refine (Hw.out _).mono ?_
  rintro e w1 ⟨v, bs, rfl, hE, hb⟩
  obtain ⟨go, ko, gq, kq, rfl, hc1, hc2⟩ := ways_cell hE (Nat.le_refl n) (Nat.zero_le _)
  have HE := Lib.hid (And.intro hE hb)
  clear hE hb
  go_wp2_with fail
  refine (Hin2.out _).mono ?_
  rintro e w1 ⟨rfl, rfl⟩
  clear Hin Hin2 Hw hwt hwn hc1 hc2
  go_wp2_with fail
  go_loopw [1, 7, 8, 9] (fun k y o r wr => ∃ (left d kk : Nat) (done : List Nat) (g c' : Nat), NthAt n k0 left d kk done ∧ r = .int .i64 (left : Int) ∧ o = .int .i64 (d : Int) ∧ k = .int .i64 (kk : Int) ∧ y = .slice (some ⟨g, 0, none⟩) done.length c' ∧
      wr.ownsRow w1.heap.size 5 1 (.slice (some ⟨g, 0, none⟩) done.length c') done.length (bytesV (done.map byN)) ∧ Below w1.heap.size w1 wr ∧ (∀ x ∈ done, x ≤ 5)) (fun _ _ _ r _ => (intOf r).toNat)
  case atStart =>
    refine ⟨n, 0, k0, [], w1.heap.size, 0, Hstart.out, rfl, rfl, rfl, rfl, ?_, (Below.refl _ _).alloc (Nat.le_refl _) _, by simp⟩
    have h := World.ownsRow_lit (base := w1.heap.size) (e := 5) (size := 1) w1 #[] 0 (by simp) (by unfold maxLen; omega) rfl
    simpa [bytesV] using h
  case round =>
    clear Hstart
    obtain ⟨left, d, kk, done, g, c', hA, rfl, rfl, rfl, rfl, hR, hB, h5⟩ := hrel
    have hlen := hA.len
    cases left with
    | zero =>
      have e := hA.eq
      simp only [nth, List.append_nil] at e
      have hB2 := HE.out.2.trans (hB.mono HE.out.2.size)
      have hcv := convert_row hR
      have E := Lib.hid e
      have HB := Lib.hid hB2
      clear e hA hR hB hB2 hlen
      go_wp2
      go_ret2
      exact ⟨by rw [E.out]; rfl, HB.out⟩
    | succ left =>
      have hl20 : left + 1 ≤ n := hA.le
      have hdn2 : d + left + 1 ≤ n := by have := hA.dl; omega
      have hdl : d + left + 1 ≤ 20 := by omega
      have hkt := wy_top (n := left + 1) (by omega) d
      have hkk := hA.kl
      have HA := Lib.hid hA
      have HR := Lib.hid (And.intro hR (And.intro hB h5))
      have hs1 := hB.size
      have HE2 := Lib.hid ((ints2_ok _).later HE.out.1 hB)
      have hd100 : -10 ≤ (d : Int) ∧ (d : Int) ≤ 100 := by omega
      clear hA hR hB h5
      rw [show ((left + 1 : Nat) : Int) = (left : Int) + 1 from by omega]
      go_wp2_with fail
      obtain ⟨Wo, rfl⟩ : ∃ y, y = wr := ⟨_, rfl⟩
      go_loopw [1, 7, 8, 10] (fun k y o s wr' => ∃ x : Nat, x ≤ 5 ∧ cbs left d x ≤ kk ∧ s = .int .i64 (x : Int) ∧ k = .int .i64 ((kk - cbs left d x : Nat) : Int) ∧ y = .slice (some ⟨g, 0, none⟩) done.length c' ∧ o = .int .i64 (d : Int) ∧ wr' = Wo) (fun _ _ _ s _ => 6 - (intOf s).toNat)
      case atStart => exact ⟨0, Nat.zero_le _, Nat.zero_le _, rfl, by simp [cbs], rfl, rfl, rfl⟩
      case round =>
        obtain ⟨x, hx, hcx, rfl, rfl, rfl, rfl, hwx⟩ := hrel
        subst hwx
        have hx6 : x < 6 := by omega
        have hat := symT_at' hx6
        have hnx := next_cb (n := left) (d := d) hx
        rcases hnx with ⟨hneg, hcb0⟩ | ⟨e, hne, hcbe, rfl, hed⟩
        · have hcx2 : cbs left d (x + 1) = cbs left d x := by rw [cbs, hcb0, Nat.add_zero]
          have hx2 := pick_more hkk (by rw [hcx2]; exact hcx)
          have HC := Lib.hid hcx2
          clear hcx2
          go_wp2_with (go_at_call 31; refine (spec_next _ _ _ hd100).mono ?_; rintro e w' ⟨rfl, rfl⟩)
          go_roundw
          case rel => exact ⟨x + 1, hx2, by rw [HC.out]; exact hcx, by go_num, by rw [HC.out], rfl, rfl, by first | rfl | trivial⟩
          case measure => simp [intOf]; omega
        · obtain ⟨go2, ko2, gq, kq, hv, hc1, hc2⟩ := ways_cell HE2.out (show left ≤ n by omega) (show dn d x ≤ n + 1 by omega)
          simp only [Value.slice.injEq] at hv
          obtain ⟨hv1, hz1_, rfl⟩ := hv
          cases hv1
          clear hz1_
          have hw2 : IntKind.i64.wrap ((left : Int) + 1 - 1) = (left : Int) := by rw [wrap_nth (by omega)]; omega
          by_cases hit : kk - cbs left d x < cb left d x
          · have hN := HA.out.next hx hcx hit
            have HN := Lib.hid hN
            have hc : ((kk - cbs left d x : Nat) : Int) < (wy left (dn d x) : Int) := by rw [← hcbe]; omega
            clear hN
            go_wp2_with (first
              | (go_at_call 31; refine (spec_next _ _ _ hd100).mono ?_; rintro e w' ⟨rfl, rfl⟩; rw [hne])
              | (at_builtin; refine wpList_append_own _ rfl _ _ 35 rfl w1.heap.size 5 i0 (.int .u8 0) 1 1 Try.underlying35 hi hz0 hz1 hz2 rfl (by decide) _ _ _ rfl (HR.out.1.alloc _) ⟨wr.heap.size, 0, none⟩ 1 1 [.int .u8 ((byN x).toNat : Int)] rfl rfl (cell_one_new _ _ _) ?c2 ?c3 ?c4 ?c5 ?_))
            case c2 => simp [Value.oneCell']
            case c3 => unfold maxLen; omega
            case c4 => omega
            case c5 => simp; omega
            intro v' w2 hown hg2 _
            have hR' : w2.ownsRow w1.heap.size 5 1 v' (done ++ [x]).length (bytesV ((done ++ [x]).map byN)) := by
              simpa [bytesV] using hown
            have hB' : Below w1.heap.size w1 w2 := (HR.out.2.1.alloc hs1 _).grown hg2 (by simp; omega) (fun j e => (HR.out.1.lt j e).1)
            obtain ⟨g', c'', rfl⟩ := ownsRow_succ hown
            clear hown hg2 hc1 hc2
            have HF := Lib.hid (And.intro hR' hB')
            clear hR' hB'
            go_wp2
            go_roundw
            case rel => exact ⟨left, dn d x, _, done ++ [x], g', c'', HN.out, by go_num, rfl, rfl, by simp, by simpa using HF.out.1, HF.out.2, fun z hz => by rcases List.mem_append.1 hz with h | h; exact HR.out.2.2 z h; rw [List.mem_singleton.1 h]; exact hx⟩
            case measure => simp [intOf]
          · have hcx2 : cbs left d (x + 1) ≤ kk := by rw [cbs]; omega
            have hx2 := pick_more hkk hcx2
            have hsub : (((kk - cbs left d x : Nat) : Int) - (wy left (dn d x) : Int)) = ((kk - cbs left d (x + 1) : Nat) : Int) := by rw [cbs, ← hcbe]; omega
            have hc : ¬ (((kk - cbs left d x : Nat) : Int) < (wy left (dn d x) : Int)) := by rw [← hcbe]; omega
            have hwk : IntKind.i64.wrap (((kk - cbs left d x : Nat) : Int) - (wy left (dn d x) : Int)) = ((kk - cbs left d (x + 1) : Nat) : Int) := by rw [hsub, wrap_nth (by omega)]
            have HS := Lib.hid hsub
            clear hsub
            go_wp2_with (go_at_call 31; refine (spec_next _ _ _ hd100).mono ?_; rintro e w' ⟨rfl, rfl⟩; rw [hne])
            go_roundw
            case rel => exact ⟨x + 1, by omega, hcx2, by go_num, by first | rfl | rw [HS.out], rfl, rfl, by first | rfl | trivial⟩
            case measure => simp [intOf]; omega

theorem spec_Nth_no (y z : Int) (w : World) (h : y < 0 ∨ 20 < y) : Calls Try.prog 12 #[.int .i64 y, .int .i64 z] w (TupPost (.tuple #[.string ⟨#[]⟩, .int .i64 2]) w) := by
  have Hin := Lib.hid (fun W => in_no y 0 20 W h)
  clear h
  go_enter Try.func12, Try.ntmps12
  go_wp2_with fail
  refine (Hin.out _).mono ?_
  rintro e w1 ⟨rfl, rfl⟩
  go_wp2
  go_ret2
  exact ⟨rfl, Below.refl _ _⟩
theorem spec_Nth_far (n : Nat) (z : Int) (w : World) (hn : n ≤ 20) (h : z < 0 ∨ (wy n 0 : Int) ≤ z) : Calls Try.prog 12 #[.int .i64 (n : Int), .int .i64 z] w (TupPost (.tuple #[.string ⟨#[]⟩, .int .i64 2]) w) := by
  have hwt := wy_top hn 0
  have Hin := Lib.hid (fun W => in_yes (n : Int) 0 20 W (by omega) (by omega))
  have Hin2 := Lib.hid (fun W => in_no z 0 ((wy n 0 : Int) - 1) W (by omega))
  have Hw := Lib.hid (fun W => spec_ways n W hn)
  have hwn : IntKind.i64.wrap ((wy n 0 : Int) - 1) = (wy n 0 : Int) - 1 := wrap_nth (by omega)
  clear h
  go_enter Try.func12, Try.ntmps12
  go_wp2_with fail
  refine (Hin.out _).mono ?_
  rintro e w0 ⟨rfl, rfl⟩
  go_wp2_with fail
  refine (Hw.out _).mono ?_
  rintro e w1 ⟨v, bs, rfl, hE, hb⟩
  obtain ⟨go, ko, gq, kq, rfl, hc1, hc2⟩ := ways_cell hE (Nat.le_refl n) (Nat.zero_le _)
  clear hE
  go_wp2_with fail
  refine (Hin2.out _).mono ?_
  rintro e w1 ⟨rfl, rfl⟩
  go_wp2
  go_ret2
  exact ⟨rfl, hb⟩
theorem impl_Nth_no (y z : Int) (w : World) (h : y < 0 ∨ 20 < y) : Calls Try.prog 13 #[.int .i64 y, .int .i64 z] w (TupPost (.tuple #[.string ⟨#[]⟩, .int .i64 2]) w) := by
  have Hc := Lib.hid (fun W => impl_Count_no_ y W h)
  clear h
  go_enter Try.func13, Try.ntmps13
  go_wp2_with fail
  refine (Hc.out _).mono ?_
  rintro e w1 ⟨rfl, hb⟩
  go_wp2
  go_ret2
  exact ⟨rfl, hb⟩
theorem impl_Nth_far (n : Nat) (z : Int) (w : World) (hn : n ≤ 20) (h : z < 0 ∨ (wy n 0 : Int) ≤ z) : Calls Try.prog 13 #[.int .i64 (n : Int), .int .i64 z] w (TupPost (.tuple #[.string ⟨#[]⟩, .int .i64 2]) w) := by
  by_cases h1 : z < 0
  · clear h
    go_enter Try.func13, Try.ntmps13
    go_wp2_with fail
    refine (impl_Count_yes_ n _ hn).mono ?_
    rintro e w1 ⟨rfl, hb⟩
    go_wp2
    go_ret2
    exact ⟨rfl, hb⟩
  · have h2 : (wy n 0 : Int) ≤ z := by omega
    clear h
    go_enter Try.func13, Try.ntmps13
    go_wp2_with fail
    refine (impl_Count_yes_ n _ hn).mono ?_
    rintro e w1 ⟨rfl, hb⟩
    go_wp2
    go_ret2
    exact ⟨rfl, hb⟩
theorem both_MatchedAt (a0 a1 : Int) (w0 : (Lit.int .i64 a0).wf = true) (w1 : (Lit.int .i64 a1).wf = true) : ∃ (r0 : ByteArray) (r1 : Int),
    (∀ w, Calls Try.prog 12 #[.int .i64 a0, .int .i64 a1] w (TupPost (.tuple #[.string r0, .int .i64 r1]) w)) ∧ (∀ w, Calls Try.prog 13 #[.int .i64 a0, .int .i64 a1] w (TupPost (.tuple #[.string r0, .int .i64 r1]) w)) := by
  by_cases h : 0 ≤ a0 ∧ a0 ≤ 20
  · obtain ⟨m, rfl⟩ : ∃ m : Nat, a0 = (m : Int) := ⟨a0.toNat, by omega⟩
    by_cases hk : 0 ≤ a1 ∧ a1 < (wy m 0 : Int)
    · obtain ⟨k, rfl⟩ : ∃ k : Nat, a1 = (k : Int) := ⟨a1.toNat, by omega⟩
      exact ⟨_, _, fun w => spec_Nth_yes m k w (by omega) (by omega), fun w => impl_Nth_yes m k w (by omega) (by omega)⟩
    · exact ⟨_, _, fun w => spec_Nth_far m a1 w (by omega) (by omega), fun w => impl_Nth_far m a1 w (by omega) (by omega)⟩
  · exact ⟨_, _, fun w => spec_Nth_no a0 a1 w (by omega), fun w => impl_Nth_no a0 a1 w (by omega)⟩
end Go.Proofs.Ytjelmiladekfjaa
