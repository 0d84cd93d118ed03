import Derived.Test.YtnclhgaikglbgaaMFnPutAndCut18
import Derived.Test.YtnclhgaikglbgaaMFnPutAndCut2
import Derived.Test.YtnclhgaikglbgaaMFnPutAndCut11
import Derived.Test.YtnclhgaikglbgaaMFnPutAndCut13
import Derived.Test.YtnclhgaikglbgaaMFnPutAndCut17
import Derived.Test.YtnclhgaikglbgaaMFnPutAndCut16
import Derived.Deep.Slices
import Derived.Deep.Fields
import Derived.Lib.SmallJoins
/- MatchedAt of the model, and both sides. -/
namespace Go.Proofs.Ytnclhgaikglbgaa
open Go.RowKit
set_option linter.unusedVariables false

theorem symT_at' {x : Nat} (h : x < 6) : (({ data := #[40, 91, 41, 93, 97, 98] } : ByteArray)[x]'h).toNat = (byN x).toNat := by
  obtain rfl | rfl | rfl | rfl | rfl | rfl : x = 0 ∨ x = 1 ∨ x = 2 ∨ x = 3 ∨ x = 4 ∨ x = 5 := by omega
  all_goals rfl

set_option maxHeartbeats 12800000 in
set_option maxRecDepth 100000 in
theorem spec_Nth_yes (n k0 : Nat) (w : World) (hn : n ≤ 20) (hk0 : k0 < wy n 0) :
    Calls Try.prog 60 #[.int .i64 (n : Int), .int .i64 (k0 : Int)] w (TupPost (.tuple #[.string (textN (nth n 0 k0)), .int .i64 0]) w) := by
  obtain ⟨i0, hi, hz0, hz1, hz2⟩ := info_parts info_u8
  have hwt := wy_top hn 0
  have Hin := Lib.hid (fun W => in_yes (n : Int) 0 20 W (by omega) (by omega))
  have Hin2 := Lib.hid (fun W => in_yes (k0 : Int) 0 ((wy n 0 : Int) - 1) W (by omega) (by omega))
  have Hw := Lib.hid (fun W => spec_ways n W hn)
  have Hstart := Lib.hid (NthAt.start hk0)
  have hwn : IntKind.i64.wrap ((wy n 0 : Int) - 1) = (wy n 0 : Int) - 1 := wrap_nth (by omega)
  go_enter Try.func60, Try.ntmps60
  go_wp2_with fail
  refine (Hin.out _).mono ?_
  rintro e w0 ⟨rfl, rfl⟩
  go_wp2_with fail
  refine (Hw.out _).mono ?_
  rintro e w1 ⟨v, bs, rfl, hE, hb⟩
  obtain ⟨go, ko, gq, kq, rfl, hc1, hc2⟩ := ways_cell hE (Nat.le_refl n) (Nat.zero_le _)
  have HE := Lib.hid (And.intro hE hb)
  clear hE hb
  go_wp2_with fail
  refine (Hin2.out _).mono ?_
  rintro e w1 ⟨rfl, rfl⟩
  clear Hin Hin2 Hw hwt hwn hc1 hc2
  go_wp2_with fail
  go_loopw [1, 7, 8, 9] (fun k y o r wr => ∃ (left d kk : Nat) (done : List Nat) (g c' : Nat), NthAt n k0 left d kk done ∧ r = .int .i64 (left : Int) ∧ o = .int .i64 (d : Int) ∧ k = .int .i64 (kk : Int) ∧ y = .slice (some ⟨g, 0, none⟩) done.length c' ∧
      wr.ownsRow w1.heap.size 5 1 (.slice (some ⟨g, 0, none⟩) done.length c') done.length (bytesV (done.map byN)) ∧ Below w1.heap.size w1 wr ∧ (∀ x ∈ done, x ≤ 5)) (fun _ _ _ r _ => (intOf r).toNat)
  case atStart =>
    refine ⟨n, 0, k0, [], w1.heap.size, 0, Hstart.out, rfl, rfl, rfl, rfl, ?_, (Below.refl _ _).alloc (Nat.le_refl _) _, by simp⟩
    have h := World.ownsRow_lit (base := w1.heap.size) (e := 5) (size := 1) w1 #[] 0 (by simp) (by unfold maxLen; omega) rfl
    simpa [bytesV] using h
  case round =>
    clear Hstart
    obtain ⟨left, d, kk, done, g, c', hA, rfl, rfl, rfl, rfl, hR, hB, h5⟩ := hrel
    have hlen := hA.len
    cases left with
    | zero =>
      have e := hA.eq
      simp only [nth, List.append_nil] at e
      have hB2 := HE.out.2.trans (hB.mono HE.out.2.size)
      have hcv := convert_row hR
      have E := Lib.hid e
      have HB := Lib.hid hB2
      clear e hA hR hB hB2 hlen
      go_wp2
      go_ret2
      exact ⟨by rw [E.out]; rfl, HB.out⟩
    | succ left =>
      have hl20 : left + 1 ≤ n := hA.le
      have hdn2 : d + left + 1 ≤ n := by have := hA.dl; omega
      have hdl : d + left + 1 ≤ 20 := by omega
      have hkt := wy_top (n := left + 1) (by omega) d
      have hkk := hA.kl
      have HA := Lib.hid hA
      have HR := Lib.hid (And.intro hR (And.intro hB h5))
      have hs1 := hB.size
      have HE2 := Lib.hid ((ints2_ok _).later HE.out.1 hB)
      have hd100 : -10 ≤ (d : Int) ∧ (d : Int) ≤ 100 := by omega
      clear hA hR hB h5
      rw [show ((left + 1 : Nat) : Int) = (left : Int) + 1 from by omega]
      go_wp2_with fail
      obtain ⟨Wo, rfl⟩ : ∃ y, y = wr := ⟨_, rfl⟩
      go_loopw [1, 7, 8, 10] (fun k y o s wr' => ∃ x : Nat, x ≤ 5 ∧ cbs left d x ≤ kk ∧ s = .int .i64 (x : Int) ∧ k = .int .i64 ((kk - cbs left d x : Nat) : Int) ∧ y = .slice (some ⟨g, 0, none⟩) done.length c' ∧ o = .int .i64 (d : Int) ∧ wr' = Wo) (fun _ _ _ s _ => 6 - (intOf s).toNat)
      case atStart => exact ⟨0, Nat.zero_le _, Nat.zero_le _, rfl, by simp [cbs], rfl, rfl, rfl⟩
      case round =>
        obtain ⟨x, hx, hcx, rfl, rfl, rfl, rfl, hwx⟩ := hrel
        subst hwx
        have hx6 : x < 6 := by omega
        have hat := symT_at' hx6
        have hnx := next_cb (n := left) (d := d) hx
        rcases hnx with ⟨hneg, hcb0⟩ | ⟨e, hne, hcbe, rfl, hed⟩
        · have hcx2 : cbs left d (x + 1) = cbs left d x := by rw [cbs, hcb0, Nat.add_zero]
          have hx2 := pick_more hkk (by rw [hcx2]; exact hcx)
          have HC := Lib.hid hcx2
          clear hcx2
          go_wp2_with (go_at_call 66; refine (spec_next _ _ _ hd100).mono ?_; rintro e w' ⟨rfl, rfl⟩)
          go_roundw
          case rel => exact ⟨x + 1, hx2, by rw [HC.out]; exact hcx, by go_num, by rw [HC.out], rfl, rfl, by first | rfl | trivial⟩
          case measure => simp [intOf]; omega
        · obtain ⟨go2, ko2, gq, kq, hv, hc1, hc2⟩ := ways_cell HE2.out (show left ≤ n by omega) (show dn d x ≤ n + 1 by omega)
          simp only [Value.slice.injEq] at hv
          obtain ⟨hv1, hz1_, rfl⟩ := hv
          cases hv1
          clear hz1_
          have hw2 : IntKind.i64.wrap ((left : Int) + 1 - 1) = (left : Int) := by rw [wrap_nth (by omega)]; omega
          by_cases hit : kk - cbs left d x < cb left d x
          · have hN := HA.out.next hx hcx hit
            have HN := Lib.hid hN
            have hc : ((kk - cbs left d x : Nat) : Int) < (wy left (dn d x) : Int) := by rw [← hcbe]; omega
            clear hN
            go_wp2_with (first
              | (go_at_call 66; refine (spec_next _ _ _ hd100).mono ?_; rintro e w' ⟨rfl, rfl⟩; rw [hne])
              | (at_builtin; refine wpList_append_own _ rfl _ _ 22 rfl w1.heap.size 5 i0 (.int .u8 0) 1 1 Try.underlying22 hi hz0 hz1 hz2 rfl (by decide) _ _ _ rfl (HR.out.1.alloc _) ⟨wr.heap.size, 0, none⟩ 1 1 [.int .u8 ((byN x).toNat : Int)] rfl rfl (cell_one_new _ _ _) ?c2 ?c3 ?c4 ?c5 ?_))
            case c2 => simp [Value.oneCell']
            case c3 => unfold maxLen; omega
            case c4 => omega
            case c5 => simp; omega
            intro v' w2 hown hg2 _
            have hR' : w2.ownsRow w1.heap.size 5 1 v' (done ++ [x]).length (bytesV ((done ++ [x]).map byN)) := by
              simpa [bytesV] using hown
            have hB' : Below w1.heap.size w1 w2 := (HR.out.2.1.alloc hs1 _).grown hg2 (by simp; omega) (fun j e => (HR.out.1.lt j e).1)
            obtain ⟨g', c'', rfl⟩ := ownsRow_succ hown
            clear hown hg2 hc1 hc2
            have HF := Lib.hid (And.intro hR' hB')
            clear hR' hB'
            go_wp2
            go_roundw
            case rel => exact ⟨left, dn d x, _, done ++ [x], g', c'', HN.out, by go_num, rfl, rfl, by simp, by simpa using HF.out.1, HF.out.2, fun z hz => by rcases List.mem_append.1 hz with h | h; exact HR.out.2.2 z h; rw [List.mem_singleton.1 h]; exact hx⟩
            case measure => simp [intOf]
          · have hcx2 : cbs left d (x + 1) ≤ kk := by rw [cbs]; omega
            have hx2 := pick_more hkk hcx2
            have hsub : (((kk - cbs left d x : Nat) : Int) - (wy left (dn d x) : Int)) = ((kk - cbs left d (x + 1) : Nat) : Int) := by rw [cbs, ← hcbe]; omega
            have hc : ¬ (((kk - cbs left d x : Nat) : Int) < (wy left (dn d x) : Int)) := by rw [← hcbe]; omega
            have hwk : IntKind.i64.wrap (((kk - cbs left d x : Nat) : Int) - (wy left (dn d x) : Int)) = ((kk - cbs left d (x + 1) : Nat) : Int) := by rw [hsub, wrap_nth (by omega)]
            have HS := Lib.hid hsub
            clear hsub
            go_wp2_with (go_at_call 66; refine (spec_next _ _ _ hd100).mono ?_; rintro e w' ⟨rfl, rfl⟩; rw [hne])
            go_roundw
            case rel => exact ⟨x + 1, by omega, hcx2, by go_num, by first | rfl | rw [HS.out], rfl, rfl, by first | rfl | trivial⟩
            case measure => simp [intOf]; omega

theorem spec_Nth_no (y z : Int) (w : World) (h : y < 0 ∨ 20 < y) : Calls Try.prog 60 #[.int .i64 y, .int .i64 z] w (TupPost (.tuple #[.string ⟨#[]⟩, .int .i64 2]) w) := by
  have Hin := Lib.hid (fun W => in_no y 0 20 W h)
  clear h
  go_enter Try.func60, Try.ntmps60
  go_wp2_with fail
  refine (Hin.out _).mono ?_
  rintro e w1 ⟨rfl, rfl⟩
  go_wp2
  go_ret2
  exact ⟨rfl, Below.refl _ _⟩
theorem spec_Nth_far (n : Nat) (z : Int) (w : World) (hn : n ≤ 20) (h : z < 0 ∨ (wy n 0 : Int) ≤ z) : Calls Try.prog 60 #[.int .i64 (n : Int), .int .i64 z] w (TupPost (.tuple #[.string ⟨#[]⟩, .int .i64 2]) w) := by
  have hwt := wy_top hn 0
  have Hin := Lib.hid (fun W => in_yes (n : Int) 0 20 W (by omega) (by omega))
  have Hin2 := Lib.hid (fun W => in_no z 0 ((wy n 0 : Int) - 1) W (by omega))
  have Hw := Lib.hid (fun W => spec_ways n W hn)
  have hwn : IntKind.i64.wrap ((wy n 0 : Int) - 1) = (wy n 0 : Int) - 1 := wrap_nth (by omega)
  clear h
  go_enter Try.func60, Try.ntmps60
  go_wp2_with fail
  refine (Hin.out _).mono ?_
  rintro e w0 ⟨rfl, rfl⟩
  go_wp2_with fail
  refine (Hw.out _).mono ?_
  rintro e w1 ⟨v, bs, rfl, hE, hb⟩
  obtain ⟨go, ko, gq, kq, rfl, hc1, hc2⟩ := ways_cell hE (Nat.le_refl n) (Nat.zero_le _)
  clear hE
  go_wp2_with fail
  refine (Hin2.out _).mono ?_
  rintro e w1 ⟨rfl, rfl⟩
  go_wp2
  go_ret2
  exact ⟨rfl, hb⟩
end Go.Proofs.Ytnclhgaikglbgaa
/- The matched word that a law draws: one of the listed words. -/
namespace Go.Proofs.Ytnclhgaikglbgaa
open Go.RowKit
set_option linter.unusedVariables false

theorem SrcAt.later {w w' : World} {p : Nat} {A : Option Addr} {n c k : Nat} (h : SrcAt w p A n c k) (hb : Below w.heap.size w w') (hp : p < w.heap.size) : SrcAt w' p A n c k := by
  obtain ⟨h0, h1, ⟨x, h2, h3⟩, f1, f2⟩ := h
  have e : ∀ q, w'.cell? ⟨p, q, none⟩ = w.cell? ⟨p, q, none⟩ := fun q => hb.cell hp
  exact ⟨(e 0).trans h0, (e 1).trans h1, ⟨x, (e 2).trans h2, h3⟩, (hb.frozen hp).trans f1, (hb.frozen hp).trans f2⟩
theorem CodeAt.later {B : Nat} {W W' : World} {A : Option Addr} {n : Nat} (h : CodeAt B W A n) (hb : Below W.heap.size W W') (hB : B ≤ W.heap.size) : CodeAt B W' A n :=
  ⟨h.le, fun j hj => by
    obtain ⟨a, x, h1, h2, h3, h4⟩ := h.byte j hj
    have e : (a.add j).block = a.block := by unfold Addr.add; split <;> rfl
    exact ⟨a, x, h1, h2, (hb.cell (by rw [e]; omega)).trans h3, h4⟩⟩
theorem grown_below {w w' : World} {p : Nat} (h : w.grownBy w' (some p)) (hp : p < w.heap.size) : Below p w w' :=
  ⟨h.os, h.tape, h.output, h.size, fun k hk => h.block k (by omega) (by simp; omega)⟩

theorem wy_pos : ∀ n : Nat, 1 ≤ wy n 0
  | 0 => Nat.le_refl _
  | n + 1 => by have := wy_pos n; rw [wy]; simp; omega

/-- A choice among so many, be they ever so many. -/
def AnyPost (p : Nat) (A : Option Addr) (n c k m : Nat) (w : World) (e : Ending) (w' : World) : Prop :=
  ∃ v k' : Nat, v < m ∧ k ≤ k' ∧ k' ≤ k + 2 ∧ e = .returned (.int .i64 (v : Int)) ∧ SrcAt w' p A n c k' ∧ w.grownBy w' (some p)
set_option maxHeartbeats 1600000 in
set_option maxRecDepth 100000 in
theorem draw_any (p : Nat) (A : Option Addr) (n c k m : Nat) (w : World) (hp : p < w.heap.size) (hc : CodeAt p w A n) (hs : SrcAt w p A n c k) (hk : k ≤ 50000) (hm : 1 ≤ m) (hm2 : m ≤ 3656158440062976) :
    Calls Try.prog 49 #[.pointer (some ⟨p, 0, none⟩), .int .i64 (m : Int)] w (AnyPost p A n c k m w) := by
  by_cases h1 : m = 1
  · subst h1
    have HS := Lib.hid hs
    clear hc hs hm hm2
    rw [show ((1 : Nat) : Int) = 1 from rfl]
    go_enter Try.func49, Try.ntmps49
    go_wp2
    go_ret
    exact ⟨0, k, by omega, Nat.le_refl _, by omega, by simp [go_sem], HS.out, ⟨rfl, rfl, rfl, Nat.le_refl _, fun _ _ _ => rfl⟩⟩
  · by_cases h2 : m ≤ 200
    · refine (draw_pick p A n c k (m : Int) w hc hs (by omega) (by omega) (by omega)).mono ?_
      rintro e w' ⟨v, v0, v1, rfl, hS, hG⟩
      obtain ⟨u, rfl⟩ := Int.eq_ofNat_of_zero_le v0
      exact ⟨u, k + 1, by omega, by omega, by omega, rfl, hS, hG⟩
    · have st := draw_next p A n c k w hc hs (by omega)
      have Hc := Lib.hid hc
      have St := Lib.hid st
      clear st hc hs
      have b1 : decide ((m : Int) ≤ 1) = false := decide_eq_false (by omega)
      have b2 : decide ((200 : Int) < (m : Int)) = true := decide_eq_true (by omega)
      go_enter Try.func49, Try.ntmps49
      go_wp2_with fail
      refine St.out.mono ?_
      rintro e w1 ⟨v, v0, v1, rfl, hS, hG⟩
      have St2 := Lib.hid (draw_next p A n c (k + 1) w1 (Hc.out.grown (Nat.le_refl _) (by omega) hG) hS (by omega))
      have HG := Lib.hid hG
      clear hS hG
      have hw1 : IntKind.i64.wrap (v * 256) = v * 256 := wrap_nth (by omega)
      go_wp2_with fail
      refine St2.out.mono ?_
      rintro e w2 ⟨y, y0, y1, rfl, hS, hG⟩
      have hw2 : IntKind.i64.wrap (v * 256 + y) = v * 256 + y := wrap_nth (by omega)
      have et : (v * 256 + y).tmod (m : Int) = (v * 256 + y) % (m : Int) := Int.tmod_eq_emod_of_nonneg (by omega)
      have HS := Lib.hid (And.intro hS (grown_two HG.out hG))
      clear hS hG
      go_wp2
      go_ret
      obtain ⟨u, hu⟩ := Int.eq_ofNat_of_zero_le (Int.emod_nonneg (v * 256 + y) (show (m : Int) ≠ 0 by omega))
      have hlt := Int.emod_lt_of_pos (v * 256 + y) (show (0 : Int) < (m : Int) by omega)
      exact ⟨u, k + 2, by omega, by omega, by omega, by simp [go_sem, ← hu], HS.out.1, HS.out.2⟩

theorem min_12 (m : Nat) (w : World) (hm : m ≤ 12) : Calls Try.prog 59 #[.int .i64 (m : Int), .int .i64 12] w fun e w' => e = .returned (.int .i64 (m : Int)) ∧ w = w' := by
  by_cases h : m < 12
  · have b1 : decide ((m : Int) < 12) = true := decide_eq_true (by omega)
    go_enter Try.func59, Try.ntmps59
    go_wp2
    go_ret
    exact ⟨by simp, rfl⟩
  · obtain rfl : m = 12 := by omega
    rw [show ((12 : Nat) : Int) = 12 from rfl]
    go_enter Try.func59, Try.ntmps59
    go_wp2
    go_ret
    exact ⟨by simp, rfl⟩

set_option maxHeartbeats 3200000 in
set_option maxRecDepth 100000 in
theorem draw_matched (p : Nat) (A : Option Addr) (n c k m : Nat) (w : World) (hp : p < w.heap.size) (hc : CodeAt p w A n) (hs : SrcAt w p A n c k) (hk : k ≤ 40000) (hm : m ≤ 12) :
    Calls Try.prog 40 #[.pointer (some ⟨p, 0, none⟩), .int .i64 (m : Int)] w fun e w' => ∃ q x : Nat, q ≤ m ∧ x < wy q 0 ∧ e = .returned (.string (textN (nth q 0 x))) ∧ Below p w w' := by
  have Hmin := Lib.hid (fun W => min_12 m W hm)
  have Hways := Lib.hid (fun W => spec_ways m W (by omega))
  have HC := Lib.hid (And.intro hc hs)
  clear hc hs
  have hw1 : IntKind.i64.wrap ((m : Int) + 1) = ((m + 1 : Nat) : Int) := by rw [wrap_nth (by omega)]; omega
  go_enter Try.func40, Try.ntmps40
  go_wp2_with fail
  refine (Hmin.out _).mono ?_
  rintro e w1 ⟨rfl, rfl⟩
  go_wp2_with fail
  refine (Hways.out _).mono ?_
  rintro e w2 ⟨v, bs, rfl, hE, hb⟩
  have hs2 := HC.out.2.later hb hp
  have hc2 := HC.out.1.later hb (by omega)
  have HE := Lib.hid (And.intro hE hb)
  have HC2 := Lib.hid (And.intro hc2 hs2)
  have hsz := hb.size
  clear hE hb hs2 hc2
  go_wp2_with fail
  refine (Hmin.out _).mono ?_
  rintro e w3 ⟨rfl, rfl⟩
  go_wp2_with fail
  refine (draw_any p A n c k (m + 1) _ (by omega) HC2.out.1 HC2.out.2 (by omega) (by omega) (by omega)).mono ?_
  rintro e w4 ⟨q, k', hq, hk1, hk2, rfl, hS, hG⟩
  have hE4 := (ints2_ok _).kept HE.out.1 (fun b hb => hG.block b ((ints2_ok _).lt HE.out.1 b hb).2 (by have := ((ints2_ok _).lt HE.out.1 b hb).1; simp; omega))
  obtain ⟨go, ko, gq, kq, rfl, hc1, hc2⟩ := ways_cell hE4 (show q ≤ m by omega) (Nat.zero_le _)
  have hc4 := HC2.out.1.grown (Nat.le_refl _) (by omega) hG
  have hz4 := hG.size
  have hpos : 1 ≤ wy q 0 := wy_pos q
  have hwt := wy_top (n := q) (by omega) 0
  have Hp := Lib.hid (draw_any p A n c k' (wy q 0) w4 (by omega) hc4 hS (by omega) hpos hwt)
  have Hb := Lib.hid (((HE.out.2.mono (show p ≤ w.heap.size by omega))).trans (grown_below hG (by omega)))
  clear hE4 hS hG hc4 HE HC HC2 Hways
  go_wp2_with fail
  refine Hp.out.mono ?_
  rintro e w5 ⟨x, k'', hx, hk3, hk4, rfl, hS, hG⟩
  have Hb5 := Lib.hid (Hb.out.trans (grown_below hG (by omega)))
  have hz5 := hG.size
  have Hn := Lib.hid (spec_Nth_yes q x w5 (by omega) hx)
  clear hS hG
  go_wp2_with fail
  refine Hn.out.mono ?_
  rintro e w6 ⟨rfl, hb6⟩
  have Hb6 := Lib.hid (Hb5.out.trans (hb6.mono (by omega)))
  clear hb6
  go_wp2
  go_ret
  exact ⟨q, x, by omega, hx, by simp [go_sem], Hb6.out⟩

theorem draw_A2Matched {A : Option Addr} {n c m : Nat} (w : World) (hc : CodeAt w.heap.size w A n) (hm : m ≤ 12) :
    Calls Try.prog 19 #[.slice A n c, .int .i64 (m : Int)] w fun e w' => ∃ q x : Nat, q ≤ m ∧ x < wy q 0 ∧ e = .returned (.string (textN (nth q 0 x))) ∧ Below w.heap.size w w' := by
  have hq := fun w1 h1 => draw_matched w.heap.size A n c 0 m w1 h1
  have Hc := Lib.hid hc
  have Hq := Lib.hid hq
  clear hc hq
  go_enter Try.func19, Try.ntmps19
  go_wp2_with fail
  refine (draw_from A n c w).mono ?_
  rintro e w1 ⟨rfl, hS, rfl⟩
  have Hw := Lib.hid (Hq.out _ (by simp) (Hc.out.alloc (Nat.le_refl _) _) hS (by omega) hm)
  clear hS
  go_wp2_with fail
  refine Hw.out.mono ?_
  rintro e w2 ⟨q, x, h1, h2, rfl, h3⟩
  have hb := ((Below.refl w.heap.size w).alloc (Nat.le_refl _) (.cells #[.slice A n c, .int .i64 0, .int .u64 0] 73)).trans h3
  clear h3
  go_wp2
  go_ret
  exact ⟨q, x, h1, h2, rfl, hb⟩
end Go.Proofs.Ytnclhgaikglbgaa
/- Arguments opened: what a laws.Checker that came in reads as. -/
namespace Go.Proofs.Ytnclhgaikglbgaa
open Go.RowKit Go.ChangeShapes Go.WideShapes Go.Deep
set_option linter.unusedVariables false

section
variable {H : Type} {enc : TypeId × Value → H} {P : Program} {w : World} {base : Nat} {held : Bool}
theorem open_row {α : Type} [Inhabited α] {t e : TypeId} {size : Nat} {en : α → List Value} {wf : α → Prop} (ht : P.underlying t = some (.slice e)) (hc : P.cellsOf e = size)
    (elem : ∀ (n : Nat) (cs : List Value) (x : DataW H × List MemPlace), DataW.trod enc P w base (fun _ => true) held n e cs = some x → ∃ y : α, cs = en y ∧ wf y) {fuel : Nat} {v : Value} {x : DataW H × List MemPlace}
    (h : DataW.trod enc P w base (fun _ => true) held fuel t [v] = some x) : ∃ xs : List α, RowR size en w v xs ∧ ∀ y ∈ xs, wf y := by
  rcases open_slice ht h with ⟨h0, _⟩ | ⟨a, len, cap, m, n, D, Pl, hcs, hb, hl, hm, hmm, hx, hi⟩
  · simp only [List.cons.injEq, and_true] at h0
    exact ⟨[], ⟨none, 0, h0, Nat.zero_le _, fun j x i u hj => by simp at hj⟩, fun y hy => by cases hy⟩
  · simp only [if_true] at hmm
    simp only [List.cons.injEq, and_true] at hcs
    have each : ∀ i, i < len → ∃ y : α, (∀ k u, (en y)[k]? = some u → w.cell? ((a.add (i * size)).add k) = some u) ∧ wf y := fun i him => by
      obtain ⟨cs', h1, h2⟩ := hi i (by omega)
      rw [hc] at h1
      obtain ⟨_, hlen, hat⟩ := World.cells?_some h1
      obtain ⟨y, rfl, hw⟩ := elem n _ _ h2
      exact ⟨y, fun k u hu => (hat k (by rw [← hlen]; exact (List.getElem?_eq_some_iff.1 hu).1)).trans hu, hw⟩
    obtain ⟨f, hf⟩ := choose_lt each
    refine ⟨(List.range len).map f, ⟨some a, cap, by rw [hcs]; simp, by simp; omega, fun j x i u hj hu => ?_⟩, fun y hy => ?_⟩
    · have hjl := (List.getElem?_eq_some_iff.1 hj).1
      simp at hjl
      rw [List.getElem?_map, List.getElem?_range hjl] at hj
      cases hj
      have := (hf j hjl).1 i u hu
      have hbl := World.block_lt_of_cell? w _ this
      rw [add_block, add_block] at hbl
      exact ⟨a, rfl, hbl, this⟩
    · obtain ⟨i, hi, rfl⟩ := List.mem_map.1 hy
      exact (hf i (List.mem_range.1 hi)).2
theorem open_many {α : Type} [Inhabited α] {t e : TypeId} {R : RP α} {wf : α → Prop} (ht : P.underlying t = some (.slice e)) (hc : P.cellsOf e = 1)
    (elem : ∀ (n : Nat) (v : Value) (x : DataW H × List MemPlace), DataW.trod enc P w base (fun _ => true) held n e [v] = some x → ∃ y : α, R w v y ∧ wf y) {fuel : Nat} {v : Value} {x : DataW H × List MemPlace}
    (h : DataW.trod enc P w base (fun _ => true) held fuel t [v] = some x) : ∃ xs : List α, ManyR R w v xs ∧ ∀ y ∈ xs, wf y := by
  rcases open_slice1 ht hc h with ⟨h0, _⟩ | ⟨a, len, cap, m, n, V, D, Pl, hcs, hb, hl, hm, hmm, hx, hi⟩
  · simp only [List.cons.injEq, and_true] at h0
    exact ⟨[], ⟨none, 0, h0, Nat.zero_le _, fun j x hj => by simp at hj⟩, fun y hy => by cases hy⟩
  · simp only [if_true] at hmm
    simp only [List.cons.injEq, and_true] at hcs
    have each : ∀ i, i < len → ∃ y : α, R w (V i) y ∧ wf y := fun i him => elem n _ _ (hi i (by omega)).2
    obtain ⟨f, hf⟩ := choose_lt each
    refine ⟨(List.range len).map f, ⟨some a, cap, by rw [hcs]; simp, by simp; omega, fun j x hj => ?_⟩, fun y hy => ?_⟩
    · have hjl := (List.getElem?_eq_some_iff.1 hj).1
      simp at hjl
      rw [List.getElem?_map, List.getElem?_range hjl] at hj
      cases hj
      have := (hi j (by omega)).1
      have hbl := World.block_lt_of_cell? w _ this
      rw [add_block] at hbl
      exact ⟨a, V j, rfl, hbl, this, (hf j hjl).1⟩
    · obtain ⟨i, hi, rfl⟩ := List.mem_map.1 hy
      exact (hf i (List.mem_range.1 hi)).2
end

def I64 (n : Int) : Prop := (Lit.int .i64 n).wf = true
section
variable {H : Type} {enc : TypeId × Value → H} {w : World} {held : Bool}
theorem read_int {n : Nat} {cs : List Value} {x : DataW H × List MemPlace} (h : DataW.trod enc Try.prog w 0 (fun _ => true) held n 2 cs = some x) : ∃ y : Int, cs = [.int .i64 y] ∧ I64 y := by
  obtain ⟨y, rfl, _, hw⟩ := DataW.trod_int Try.underlying2 h
  exact ⟨y, rfl, hw⟩
theorem read_bool {n : Nat} {cs : List Value} {x : DataW H × List MemPlace} (h : DataW.trod enc Try.prog w 0 (fun _ => true) held n 4 cs = some x) : ∃ y : Bool, cs = [.bool y] ∧ True := by
  obtain ⟨y, rfl, _⟩ := DataW.trod_bool Try.underlying4 h
  exact ⟨y, rfl, trivial⟩
end

theorem cells_i64 : Try.prog.cellsOf 2 = 1 := by kernel_rfl
theorem cells_bool : Try.prog.cellsOf 4 = 1 := by kernel_rfl
theorem cells_ints : Try.prog.cellsOf 25 = 1 := by kernel_rfl
theorem cells_ints2 : Try.prog.cellsOf 78 = 1 := by kernel_rfl
section
variable {H : Type} {enc : TypeId × Value → H} {w : World} {held : Bool}
def WfI (xs : List Int) : Prop := ∀ y ∈ xs, I64 y
def WfP (xs : List (Int × Int)) : Prop := ∀ y ∈ xs, I64 y.1 ∧ I64 y.2
structure WfC (c : Ck) : Prop where
  stack : I64 c.stack
  start : I64 c.start
  call : ∀ x ∈ c.call, WfP x
  ret : ∀ x ∈ c.ret, ∀ y ∈ x, WfI y
  inner : ∀ x ∈ c.inner, WfI x

/-- A laws.Checker that came in. -/
def CkR : RP Ck := fun w v c => ∃ va vc vr vi, v = .agg #[.int .i64 c.stack, .int .i64 c.start, va, vc, vr, vi] ∧ BoolsR w va c.accept ∧ Push2R w vc c.call ∧ Ints3R w vr c.ret ∧ Ints2R w vi c.inner
theorem ck_r : RP.Ok CkR where
  later := by
    rintro w w' v c ⟨va, vc, vr, vi, rfl, h1, h2, h3, h4⟩ hb
    exact ⟨va, vc, vr, vi, rfl, bools_r.later h1 hb, pushes2_r.later h2 hb, ints3_r.later h3 hb, ints2_r.later h4 hb⟩

theorem read_ints {n : Nat} {v : Value} {x : DataW H × List MemPlace} (h : DataW.trod enc Try.prog w 0 (fun _ => true) held n 25 [v] = some x) : ∃ y, IntsR w v y ∧ WfI y :=
  open_row Try.underlying25 cells_i64 (fun _ _ _ h => read_int h) h
theorem read_ints2 {n : Nat} {v : Value} {x : DataW H × List MemPlace} (h : DataW.trod enc Try.prog w 0 (fun _ => true) held n 78 [v] = some x) : ∃ y, Ints2R w v y ∧ ∀ z ∈ y, WfI z :=
  open_many Try.underlying78 cells_ints (fun _ _ _ h => read_ints h) h
end
end Go.Proofs.Ytnclhgaikglbgaa
