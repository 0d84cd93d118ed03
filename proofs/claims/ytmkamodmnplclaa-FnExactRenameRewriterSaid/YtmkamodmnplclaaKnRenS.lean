/- RenameRewriter of the model. -/
import Derived.Test.YtmkamodmnplclaaKnA
import Derived.BigRegion
import Derived.Deep.DeepCutAuto
namespace Go.Proofs.Ytmkamodmnplclaa
open Go.RowKit
set_option linter.unusedVariables false

/-- Six symbols in the order of the calls, the returns and the letters. -/
structure Ren6 (x0 x1 x2 x3 x4 x5 : UInt8) : Prop where
  c0 : callB x0.toNat = true
  c1 : callB x1.toNat = true
  r2 : retB x2.toNat = true
  r3 : retB x3.toNat = true
  l4 : x4 = 97 ∨ x4 = 98
  l5 : x5 = 97 ∨ x5 = 98
theorem call_sym {x : UInt8} (h : callB x.toNat = true) : 0 ≤ symNo x.toNat ∧ symNo x.toNat ≤ 1 ∧ byteOf (symNo x.toNat) = x ∧ shapeB x = 40 := by
  have e : ∀ q : UInt8, (x.toNat : Int) = (q.toNat : Int) → x = q := fun q h => UInt8.toNat_inj.1 (by omega)
  have h1 : (x.toNat : Int) = 40 ∨ (x.toNat : Int) = 91 := by simpa [callB] using h
  rcases h1 with h1 | h1
  · rw [e 40 h1]; decide
  · rw [e 91 h1]; decide
theorem ret_sym {x : UInt8} (h : retB x.toNat = true) : 2 ≤ symNo x.toNat ∧ symNo x.toNat ≤ 3 ∧ byteOf (symNo x.toNat) = x ∧ shapeB x = 41 := by
  have e : ∀ q : UInt8, (x.toNat : Int) = (q.toNat : Int) → x = q := fun q h => UInt8.toNat_inj.1 (by omega)
  have h1 : (x.toNat : Int) = 41 ∨ (x.toNat : Int) = 93 := by simpa [retB] using h
  rcases h1 with h1 | h1
  · rw [e 41 h1]; decide
  · rw [e 93 h1]; decide
theorem let_sym {x : UInt8} (h : x = 97 ∨ x = 98) : 4 ≤ symNo x.toNat ∧ symNo x.toNat ≤ 5 ∧ byteOf (symNo x.toNat) = x ∧ shapeB x = 97 ∧ 97 ≤ x.toNat := by
  rcases h with rfl | rfl <;> decide
theorem Ren6.isW {x0 x1 x2 x3 x4 x5 : UInt8} (h : Ren6 x0 x1 x2 x3 x4 x5) : IsW ⟨#[x0, x1, x2, x3, x4, x5]⟩ := by
  refine ⟨by show 6 ≤ 60; omega, fun b hb => ?_⟩
  have hb : b ∈ [x0, x1, x2, x3, x4, x5] := hb
  simp only [List.mem_cons, List.not_mem_nil, or_false] at hb
  rcases hb with rfl | rfl | rfl | rfl | rfl | rfl
  · exact (call_sym h.c0).1
  · exact (call_sym h.c1).1
  · have := (ret_sym h.r2).1; omega
  · have := (ret_sym h.r3).1; omega
  · have := (let_sym h.l4).1; omega
  · have := (let_sym h.l5).1; omega
def renRw (x0 x1 x2 x3 x4 x5 : UInt8) : Rw := lit1 1 (0, 0, ⟨#[x0]⟩) (0, 0, ⟨#[x1]⟩) [(0, ⟨#[x2]⟩), (0, ⟨#[x2]⟩)] [(0, ⟨#[x3]⟩), (0, ⟨#[x3]⟩)] (0, ⟨#[x4]⟩) (0, ⟨#[x5]⟩)
theorem ren_bd {x0 x1 x2 x3 x4 x5 : UInt8} : BdRw (renRw x0 x1 x2 x3 x4 x5) := lit1_bd (by simp) (by simp)
def renS (x0 x1 x2 x3 x4 x5 : UInt8) (j : Nat) : Rw := if j = 0 then lit1 1 (0, 0, ⟨#[40]⟩) (0, 0, ⟨#[91]⟩) (List.replicate 2 (0, ⟨#[41]⟩)) (List.replicate 2 (0, ⟨#[93]⟩)) (0, ⟨#[97]⟩) (0, ⟨#[98]⟩) else if j = 1 then lit1 1 (0, 0, ⟨#[x0]⟩) (0, 0, ⟨#[91]⟩) [(0, ⟨#[x2]⟩), (0, ⟨#[x2]⟩)] (List.replicate 2 (0, ⟨#[93]⟩)) (0, ⟨#[x4]⟩) (0, ⟨#[98]⟩) else renRw x0 x1 x2 x3 x4 x5
set_option maxHeartbeats 6400000 in
set_option maxRecDepth 100000 in
theorem spec_Rename_yes (x0 x1 x2 x3 x4 x5 : UInt8) (w : World) (h : Ren6 x0 x1 x2 x3 x4 x5) : Calls Try.prog 30 #[.string ⟨#[x0, x1, x2, x3, x4, x5]⟩] w (PostR RwE (renRw x0 x1 x2 x3 x4 x5) 0 w) := by
  have HW := Lib.hid h.isW
  have hc0 := h.c0
  have hc1 := h.c1
  have hr2 := h.r2
  have hr3 := h.r3
  have h4 : ¬ ((x4.toNat : Int) < 97) := by have := (let_sym h.l4).2.2.2.2; omega
  have h5 : ¬ ((x5.toNat : Int) < 97) := by have := (let_sym h.l5).2.2.2.2; omega
  have n4 : ¬ (x4.toNat < 97) := by omega
  have n5 : ¬ (x5.toNat < 97) := by omega
  obtain ⟨s, hs⟩ : ∃ s, s = (⟨#[x0, x1, x2, x3, x4, x5]⟩ : ByteArray) := ⟨_, rfl⟩
  have hz : s.size = 6 := by rw [hs]; rfl
  have g0 : ∀ h : 0 < s.size, s[0]'h = x0 := by rw [hs]; exact fun _ => rfl
  have q0 : s.extract 0 1 = ⟨#[x0]⟩ := by rw [hs]; rfl
  have g1 : ∀ h : 1 < s.size, s[1]'h = x1 := by rw [hs]; exact fun _ => rfl
  have q1 : s.extract 1 2 = ⟨#[x1]⟩ := by rw [hs]; rfl
  have g2 : ∀ h : 2 < s.size, s[2]'h = x2 := by rw [hs]; exact fun _ => rfl
  have q2 : s.extract 2 3 = ⟨#[x2]⟩ := by rw [hs]; rfl
  have g3 : ∀ h : 3 < s.size, s[3]'h = x3 := by rw [hs]; exact fun _ => rfl
  have q3 : s.extract 3 4 = ⟨#[x3]⟩ := by rw [hs]; rfl
  have g4 : ∀ h : 4 < s.size, s[4]'h = x4 := by rw [hs]; exact fun _ => rfl
  have q4 : s.extract 4 5 = ⟨#[x4]⟩ := by rw [hs]; rfl
  have g5 : ∀ h : 5 < s.size, s[5]'h = x5 := by rw [hs]; exact fun _ => rfl
  have q5 : s.extract 5 6 = ⟨#[x5]⟩ := by rw [hs]; rfl
  rw [← hs] at HW ⊢
  clear hs h
  have H : Hid (∀ W, Calls Try.prog 44 #[.int .i64 1, .int .i64 1] W (NewPost RwE (plainRw 1 1) W)) := fun W => spec_plainRw 1 1 W (by omega) (by omega)
  obtain ⟨c9, hc9⟩ : ∃ c, c = plainRw 1 1 := ⟨_, rfl⟩
  rw [← hc9] at H
  have Hc9 := Lib.hid hc9
  clear hc9
  have hBr := (Below.refl w.heap.size w).alloc (Nat.le_refl _) (.cells #[.int .i64 0, .int .i64 0, .slice none 0 0, .slice none 0 0, .slice none 0 0] 36)
  have hres := Bx.new w 36 #[.int .i64 0, .int .i64 0, .slice none 0 0, .slice none 0 0, .slice none 0 0]
  obtain ⟨Wr, hWr⟩ : ∃ Wr, Wr = w.alloc (.cells #[.int .i64 0, .int .i64 0, .slice none 0 0, .slice none 0 0, .slice none 0 0] 36) := ⟨_, rfl⟩
  rw [← hWr] at hBr hres
  have HR := Lib.hid (And.intro hBr (And.intro hres.lt hres))
  have hml : w.heap.size < Wr.heap.size := hres.lt
  have HWr := Lib.hid hWr
  clear hBr hres hWr
  go_enter Try.func30, Try.ntmps30
  go_wp2_with (first | (go_at_call 62; refine (spec_ok_yes _ _ HW.out).mono ?_; rintro e w' ⟨rfl, rfl⟩) | (go_at_call 63; refine (spec_call _ _).mono ?_; rintro e w' ⟨rfl, rfl⟩; simp only [hc0, hc1]) | (go_at_call 64; refine (spec_return _ _).mono ?_; rintro e w' ⟨rfl, rfl⟩; simp only [hr2, hr3]))
  rw [← HWr.out]
  refine (H.out _).mono ?_
  rintro e w1 ⟨v1, bs1, rfl, E1, hb1⟩
  obtain ⟨A0, n0, k0, A1, n1, k1, A2, n2, k2, rfl⟩ := E1.form
  obtain ⟨b1, b2, b3, hA⟩ := RwAt.of_value E1 hb1.size
  have hBX := (hb1.alloc hb1.size (.cells #[.int .i64 c9.stack, .int .i64 c9.start, .slice A0 n0 k0, .slice A1 n1 k1, .slice A2 n2 k2] 36))
  obtain ⟨b, hb⟩ : ∃ b, b = w1.heap.size := ⟨_, rfl⟩
  obtain ⟨X0, hX0⟩ : ∃ X, X = w1.alloc (.cells #[.int .i64 c9.stack, .int .i64 c9.start, .slice A0 n0 k0, .slice A1 n1 k1, .slice A2 n2 k2] 36) := ⟨_, rfl⟩
  rw [← hX0, ← hb] at hA
  rw [← hX0] at hBX
  rw [Hc9.out] at hA
  have HX0 := Lib.hid (And.intro hX0 hb)
  have HA_X0 := Lib.hid (And.intro (show RwAt Wr.heap.size X0 b (lit1 1 (0, 0, ⟨#[40]⟩) (0, 0, ⟨#[91]⟩) (List.replicate 2 (0, ⟨#[41]⟩)) (List.replicate 2 (0, ⟨#[93]⟩)) (0, ⟨#[97]⟩) (0, ⟨#[98]⟩)) b1 b2 b3 from hA) hBX)
  clear hA hBX hX0 hb E1 hb1
  go_upto_region 4 with fail
  rw [← HX0.out.2]
  rw [← HX0.out.1]
  clear HX0
  go_wp2_with fail
  go_loopw [5] (fun i wr => ∃ j : Nat, j ≤ 2 ∧ i = .int .i64 j ∧ (∃ b1 b2 b3, RwAt Wr.heap.size wr b (renS x0 x1 x2 x3 x4 x5 j) b1 b2 b3) ∧ Below Wr.heap.size Wr wr) (fun i _ => 2 - (intOf i).toNat)
  case atStart => exact ⟨0, by omega, rfl, ⟨_, _, _, HA_X0.out.1⟩, HA_X0.out.2⟩
  case round =>
    obtain ⟨j, hj, rfl, ⟨b1, b2, b3, hA0⟩, hB0⟩ := hrel
    clear HA_X0
    obtain ⟨Y0, hY0⟩ : ∃ y, y = wr := ⟨_, rfl⟩
    rw [← hY0] at hA0 hB0 ⊢
    rcases (by omega : j = 0 ∨ j = 1 ∨ j = 2) with rfl | rfl | rfl
    · have HA_Y0 := Lib.hid (And.intro (show RwAt Wr.heap.size Y0 b (lit1 1 (0, 0, ⟨#[40]⟩) (0, 0, ⟨#[91]⟩) (List.replicate 2 (0, ⟨#[41]⟩)) (List.replicate 2 (0, ⟨#[93]⟩)) (0, ⟨#[97]⟩) (0, ⟨#[98]⟩)) b1 b2 b3 from hA0) hB0)
      clear hA0 hB0 hY0
      obtain ⟨hA, hB⟩ := HA_Y0.out
      obtain ⟨g0, k0, g1, k1, hc0, hc1, hc2, hfz, ⟨hb', hg0, hg1⟩, hput⟩ := hA.at_call (i := 0) (j := 0) (o := 2) (q := 2) (row := [(0, 0, ⟨#[40]⟩), (0, 0, ⟨#[91]⟩)]) (p := (0, 0, ⟨#[40]⟩)) rfl rfl rfl rfl
      have hc0 : Y0.cell? ⟨b, 2, none⟩ = some (.slice (some ⟨g0, 0, none⟩) 1 k0) := hc0
      have hc1 : Y0.cell? ⟨g0, 0, none⟩ = some (.slice (some ⟨g1, 0, none⟩) 2 k1) := hc1
      have HC := Lib.hid (And.intro hc0 (And.intro hc1 (And.intro hc2 (And.intro hfz hg1))))
      have HP9 : Hid (∀ W', Below Y0.heap.size Y0 W' → RwAt Wr.heap.size (W'.setCell ⟨g1, 2, none⟩ (.string ⟨#[x0]⟩)) b (lit1 1 (0, 0, ⟨#[x0]⟩) (0, 0, ⟨#[91]⟩) (List.replicate 2 (0, ⟨#[41]⟩)) (List.replicate 2 (0, ⟨#[93]⟩)) (0, ⟨#[97]⟩) (0, ⟨#[98]⟩)) b1 b2 b3 ∧ Below Wr.heap.size Wr (W'.setCell ⟨g1, 2, none⟩ (.string ⟨#[x0]⟩))) := fun W' hW' => by
        have h9 := hput W' hW' (0, 0, ⟨#[x0]⟩) (.string ⟨#[x0]⟩) rfl
        exact ⟨h9.1, hB.trans h9.2⟩
      clear hput hfz hA hB hc0 hc1 hc2 HA_Y0
      go_upto_region 7 with fail
      refine wp_region_free_last (by kernel_rfl) [
          .val [] (fun _ => .pointer (some ⟨b, 2, none⟩)),
          .val [] (fun _ => .slice (some ⟨g0, 0, none⟩) 1 k0),
          .val [] (fun _ => .pointer (some ⟨g0, 0, none⟩)),
          .val [] (fun _ => .slice (some ⟨g1, 0, none⟩) 2 k1),
          .val [] (fun _ => .int .i64 0),
          .val [] (fun _ => .string s),
          .val [] (fun _ => .int .i64 0),
          .val [] (fun _ => .int .i64 0),
          .val [] (fun _ => .int .i64 1),
          .val [] (fun _ => .string ⟨#[x0]⟩),
          .val [] (fun _ => .pointer (some ⟨g1, 0, none⟩)),
          .val [] (fun _ => .pointer (some ⟨g1, 2, none⟩))] ?hp ?hfw ?deps ?oks ?hl ?hpos ?steps
      case hp => kernel_rfl
      case hfw => kernel_rfl
      case deps => kernel_rfl
      case hl => kernel_rfl
      case hpos => kernel_rfl
      case oks =>
        intro F hF
        simp only [List.mem_cons, List.not_mem_nil, or_false] at hF
        rcases hF with rfl | rfl | rfl | rfl | rfl | rfl | rfl | rfl | rfl | rfl | rfl | rfl
        all_goals trivial
      case steps =>
        refine StepsL.cons ?_ ?_
        · refine FreeStep.val [] _ rfl rfl fun u β W hW hn fr hfr K hK => ?_
          simp only [frameL, putL, Act.put, List.setIfInBounds_toArray, List.set_cons_zero, List.set_cons_succ, Nat.zero_add, Nat.reduceAdd] at hfr
          subst hfr
          have HK := Lib.hid hK
          clear hK hn
          go_simp
          have h9 := HK.out
          revert h9
          clear HK
          go_simp
          try exact id
        refine StepsL.cons ?_ ?_
        · refine FreeStep.val [] _ rfl rfl fun u β W hW hn fr hfr K hK => ?_
          simp only [frameL, putL, Act.put, List.setIfInBounds_toArray, List.set_cons_zero, List.set_cons_succ, Nat.zero_add, Nat.reduceAdd] at hfr
          subst hfr
          have e0 : u 0 = .pointer (some ⟨b, 2, none⟩) := Have.get (k := 0) hn rfl
          simp only [e0] at hK
          have c0 := cellL HC.out.1 hW
          have HK := Lib.hid hK
          clear hK hn
          go_simp
          have h9 := HK.out
          revert h9
          clear HK
          go_simp
          try exact id
        refine StepsL.cons ?_ ?_
        · refine FreeStep.val [] _ rfl rfl fun u β W hW hn fr hfr K hK => ?_
          simp only [frameL, putL, Act.put, List.setIfInBounds_toArray, List.set_cons_zero, List.set_cons_succ, Nat.zero_add, Nat.reduceAdd] at hfr
          subst hfr
          have e1 : u 1 = .slice (some ⟨g0, 0, none⟩) 1 k0 := Have.get (k := 1) hn rfl
          simp only [e1] at hK
          have HK := Lib.hid hK
          clear hK hn
          go_simp
          have h9 := HK.out
          revert h9
          clear HK
          go_simp
          try exact id
        refine StepsL.cons ?_ ?_
        · refine FreeStep.val [] _ rfl rfl fun u β W hW hn fr hfr K hK => ?_
          simp only [frameL, putL, Act.put, List.setIfInBounds_toArray, List.set_cons_zero, List.set_cons_succ, Nat.zero_add, Nat.reduceAdd] at hfr
          subst hfr
          have e2 : u 2 = .pointer (some ⟨g0, 0, none⟩) := Have.get (k := 2) hn rfl
          simp only [e2] at hK
          have c0 := cellL HC.out.2.1 hW
          have HK := Lib.hid hK
          clear hK hn
          go_simp
          have h9 := HK.out
          revert h9
          clear HK
          go_simp
          try exact id
        refine StepsL.cons ?_ ?_
        · refine FreeStep.val [] _ rfl rfl fun u β W hW hn fr hfr K hK => ?_
          simp only [frameL, putL, Act.put, List.setIfInBounds_toArray, List.set_cons_zero, List.set_cons_succ, Nat.zero_add, Nat.reduceAdd] at hfr
          subst hfr
          have HK := Lib.hid hK
          clear hK hn
          go_simp
          have h9 := HK.out
          revert h9
          clear HK
          go_simp
          try exact id
        refine StepsL.cons ?_ ?_
        · refine FreeStep.val [] _ rfl rfl fun u β W hW hn fr hfr K hK => ?_
          simp only [frameL, putL, Act.put, List.setIfInBounds_toArray, List.set_cons_zero, List.set_cons_succ, Nat.zero_add, Nat.reduceAdd] at hfr
          subst hfr
          have HK := Lib.hid hK
          clear hK hn
          go_simp
          have h9 := HK.out
          revert h9
          clear HK
          go_simp
          try exact id
        refine StepsL.cons ?_ ?_
        · refine FreeStep.val [] _ rfl rfl fun u β W hW hn fr hfr K hK => ?_
          simp only [frameL, putL, Act.put, List.setIfInBounds_toArray, List.set_cons_zero, List.set_cons_succ, Nat.zero_add, Nat.reduceAdd] at hfr
          subst hfr
          have HK := Lib.hid hK
          clear hK hn
          go_simp
          have h9 := HK.out
          revert h9
          clear HK
          go_simp
          try exact id
        refine StepsL.cons ?_ ?_
        · refine FreeStep.val [] _ rfl rfl fun u β W hW hn fr hfr K hK => ?_
          simp only [frameL, putL, Act.put, List.setIfInBounds_toArray, List.set_cons_zero, List.set_cons_succ, Nat.zero_add, Nat.reduceAdd] at hfr
          subst hfr
          have HK := Lib.hid hK
          clear hK hn
          go_simp
          have h9 := HK.out
          revert h9
          clear HK
          go_simp
          try exact id
        refine StepsL.cons ?_ ?_
        · refine FreeStep.val [] _ rfl rfl fun u β W hW hn fr hfr K hK => ?_
          simp only [frameL, putL, Act.put, List.setIfInBounds_toArray, List.set_cons_zero, List.set_cons_succ, Nat.zero_add, Nat.reduceAdd] at hfr
          subst hfr
          have e7 : u 7 = .int .i64 0 := Have.get (k := 7) hn rfl
          simp only [e7] at hK
          have HK := Lib.hid hK
          clear hK hn
          go_simp
          have h9 := HK.out
          revert h9
          clear HK
          go_simp
          try exact id
        refine StepsL.cons ?_ ?_
        · refine FreeStep.val [] _ rfl rfl fun u β W hW hn fr hfr K hK => ?_
          simp only [frameL, putL, Act.put, List.setIfInBounds_toArray, List.set_cons_zero, List.set_cons_succ, Nat.zero_add, Nat.reduceAdd] at hfr
          subst hfr
          have e5 : u 5 = .string s := Have.get (k := 5) hn rfl
          have e6 : u 6 = .int .i64 0 := Have.get (k := 6) hn rfl
          have e8 : u 8 = .int .i64 1 := Have.get (k := 8) hn rfl
          simp only [e5, e6, e8] at hK
          have HK := Lib.hid hK
          clear hK hn
          go_simp
          have h9 := HK.out
          revert h9
          clear HK
          go_simp
          try exact id
        refine StepsL.cons ?_ ?_
        · refine FreeStep.val [] _ rfl rfl fun u β W hW hn fr hfr K hK => ?_
          simp only [frameL, putL, Act.put, List.setIfInBounds_toArray, List.set_cons_zero, List.set_cons_succ, Nat.zero_add, Nat.reduceAdd] at hfr
          subst hfr
          have e3 : u 3 = .slice (some ⟨g1, 0, none⟩) 2 k1 := Have.get (k := 3) hn rfl
          have e4 : u 4 = .int .i64 0 := Have.get (k := 4) hn rfl
          simp only [e3, e4] at hK
          have HK := Lib.hid hK
          clear hK hn
          go_simp
          have h9 := HK.out
          revert h9
          clear HK
          go_simp
          try exact id
        refine StepsL.cons ?_ ?_
        · refine FreeStep.val [] _ rfl rfl fun u β W hW hn fr hfr K hK => ?_
          simp only [frameL, putL, Act.put, List.setIfInBounds_toArray, List.set_cons_zero, List.set_cons_succ, Nat.zero_add, Nat.reduceAdd] at hfr
          subst hfr
          have e10 : u 10 = .pointer (some ⟨g1, 0, none⟩) := Have.get (k := 10) hn rfl
          simp only [e10] at hK
          have HK := Lib.hid hK
          clear hK hn
          go_simp
          have h9 := HK.out
          revert h9
          clear HK
          go_simp
          try exact id
        intro u β W9 hW hn hdis hbnd fr hfr K hK
        simp only [frameL, putL, Act.put, List.setIfInBounds_toArray, List.set_cons_zero, List.set_cons_succ, Nat.zero_add, Nat.reduceAdd] at hfr
        subst hfr
        have e9 : u 9 = .string ⟨#[x0]⟩ := Have.get (k := 9) hn rfl
        have e11 : u 11 = .pointer (some ⟨g1, 2, none⟩) := Have.get (k := 11) hn rfl
        have HK := Lib.hid hK
        clear hn hdis hbnd hK
        have c0 := cellL HC.out.2.2.1 hW
        have z0 := HC.out.2.2.2.1 W9 hW
        have l0 : g1 < W9.heap.size := Nat.lt_of_lt_of_le HC.out.2.2.2.2 hW.size
        have HP := Lib.hid (HP9.out W9 hW)
        clear hW HC HP9
        go_simp
        refine HK.out _ _ ?_
        clear HK c0 z0 l0
        generalize u 0 = s0 at *
        generalize u 1 = s1 at *
        generalize u 2 = s2 at *
        generalize u 3 = s3 at *
        generalize u 4 = s4 at *
        generalize u 5 = s5 at *
        generalize u 6 = s6 at *
        generalize u 7 = s7 at *
        generalize u 8 = s8 at *
        generalize u 9 = s9 at *
        generalize u 10 = s10 at *
        generalize u 11 = s11 at *
        obtain ⟨Y1, hX1⟩ : ∃ X, X = W9.setCell ⟨g1, 2, none⟩ (.string ⟨#[x0]⟩) := ⟨_, rfl⟩
        have HX1 := Lib.hid hX1
        rw [← hX1] at HP
        rw [← HX1.out]
        have HA_Y1 := HP
        clear hX1 HP HX1
        obtain ⟨hA, hB⟩ := HA_Y1.out
        obtain ⟨g0, k0, g1, k1, g2, k2, hc0, hc1, hc1', hc2, hfz, ⟨hb', hg0, hg1, hg2⟩, hput⟩ := hA.at_ret (i := 0) (s := 0) (j := 0) (o := 1) (q := 1) (lists := [(List.replicate 2 (0, ⟨#[41]⟩)), (List.replicate 2 (0, ⟨#[93]⟩))]) (row := (List.replicate 2 (0, ⟨#[41]⟩))) (p := (0, ⟨#[41]⟩)) rfl rfl rfl rfl rfl
        have hc0 : Y1.cell? ⟨b, 3, none⟩ = some (.slice (some ⟨g0, 0, none⟩) 1 k0) := hc0
        have hc1 : Y1.cell? ⟨g0, 0, none⟩ = some (.slice (some ⟨g1, 0, none⟩) 2 k1) := hc1
        have hc1' : Y1.cell? ⟨g1, 0, none⟩ = some (.slice (some ⟨g2, 0, none⟩) 2 k2) := hc1'
        have HC := Lib.hid (And.intro hc0 (And.intro hc1 (And.intro hc1' (And.intro hc2 (And.intro hfz hg2)))))
        have HP9 : Hid (∀ W', Below Y1.heap.size Y1 W' → RwAt Wr.heap.size (W'.setCell ⟨g2, 1, none⟩ (.string ⟨#[x2]⟩)) b (lit1 1 (0, 0, ⟨#[x0]⟩) (0, 0, ⟨#[91]⟩) [(0, ⟨#[x2]⟩), (0, ⟨#[41]⟩)] (List.replicate 2 (0, ⟨#[93]⟩)) (0, ⟨#[97]⟩) (0, ⟨#[98]⟩)) b1 b2 b3 ∧ Below Wr.heap.size Wr (W'.setCell ⟨g2, 1, none⟩ (.string ⟨#[x2]⟩))) := fun W' hW' => by
          have h9 := hput W' hW' (0, ⟨#[x2]⟩) (.string ⟨#[x2]⟩) rfl
          exact ⟨h9.1, hB.trans h9.2⟩
        clear hput hfz hA hB hc0 hc1 hc2 hc1' HA_Y1
        go_upto_region 8 with fail
        refine wp_region_free_last (by kernel_rfl) [
            .val [] (fun _ => .pointer (some ⟨b, 3, none⟩)),
            .val [] (fun _ => .slice (some ⟨g0, 0, none⟩) 1 k0),
            .val [] (fun _ => .pointer (some ⟨g0, 0, none⟩)),
            .val [] (fun _ => .slice (some ⟨g1, 0, none⟩) 2 k1),
            .val [] (fun _ => .int .i64 0),
            .val [] (fun _ => .pointer (some ⟨g1, 0, none⟩)),
            .val [] (fun _ => .slice (some ⟨g2, 0, none⟩) 2 k2),
            .val [] (fun _ => .string s),
            .val [] (fun _ => .int .i64 0),
            .val [] (fun _ => .int .i64 2),
            .val [] (fun _ => .int .i64 0),
            .val [] (fun _ => .int .i64 3),
            .val [] (fun _ => .string ⟨#[x2]⟩),
            .val [] (fun _ => .pointer (some ⟨g2, 0, none⟩)),
            .val [] (fun _ => .pointer (some ⟨g2, 1, none⟩))] ?hp ?hfw ?deps ?oks ?hl ?hpos ?steps
        case hp => kernel_rfl
        case hfw => kernel_rfl
        case deps => kernel_rfl
        case hl => kernel_rfl
        case hpos => kernel_rfl
        case oks =>
          intro F hF
          simp only [List.mem_cons, List.not_mem_nil, or_false] at hF
          rcases hF with rfl | rfl | rfl | rfl | rfl | rfl | rfl | rfl | rfl | rfl | rfl | rfl | rfl | rfl | rfl
          all_goals trivial
        case steps =>
          refine StepsL.cons ?_ ?_
          · refine FreeStep.val [] _ rfl rfl fun u β W hW hn fr hfr K hK => ?_
            simp only [frameL, putL, Act.put, List.setIfInBounds_toArray, List.set_cons_zero, List.set_cons_succ, Nat.zero_add, Nat.reduceAdd] at hfr
            subst hfr
            have HK := Lib.hid hK
            clear hK hn
            go_simp
            have h9 := HK.out
            revert h9
            clear HK
            go_simp
            try exact id
          refine StepsL.cons ?_ ?_
          · refine FreeStep.val [] _ rfl rfl fun u β W hW hn fr hfr K hK => ?_
            simp only [frameL, putL, Act.put, List.setIfInBounds_toArray, List.set_cons_zero, List.set_cons_succ, Nat.zero_add, Nat.reduceAdd] at hfr
            subst hfr
            have e0 : u 0 = .pointer (some ⟨b, 3, none⟩) := Have.get (k := 0) hn rfl
            simp only [e0] at hK
            have c0 := cellL HC.out.1 hW
            have HK := Lib.hid hK
            clear hK hn
            go_simp
            have h9 := HK.out
            revert h9
            clear HK
            go_simp
            try exact id
          refine StepsL.cons ?_ ?_
          · refine FreeStep.val [] _ rfl rfl fun u β W hW hn fr hfr K hK => ?_
            simp only [frameL, putL, Act.put, List.setIfInBounds_toArray, List.set_cons_zero, List.set_cons_succ, Nat.zero_add, Nat.reduceAdd] at hfr
            subst hfr
            have e1 : u 1 = .slice (some ⟨g0, 0, none⟩) 1 k0 := Have.get (k := 1) hn rfl
            simp only [e1] at hK
            have HK := Lib.hid hK
            clear hK hn
            go_simp
            have h9 := HK.out
            revert h9
            clear HK
            go_simp
            try exact id
          refine StepsL.cons ?_ ?_
          · refine FreeStep.val [] _ rfl rfl fun u β W hW hn fr hfr K hK => ?_
            simp only [frameL, putL, Act.put, List.setIfInBounds_toArray, List.set_cons_zero, List.set_cons_succ, Nat.zero_add, Nat.reduceAdd] at hfr
            subst hfr
            have e2 : u 2 = .pointer (some ⟨g0, 0, none⟩) := Have.get (k := 2) hn rfl
            simp only [e2] at hK
            have c0 := cellL HC.out.2.1 hW
            have HK := Lib.hid hK
            clear hK hn
            go_simp
            have h9 := HK.out
            revert h9
            clear HK
            go_simp
            try exact id
          refine StepsL.cons ?_ ?_
          · refine FreeStep.val [] _ rfl rfl fun u β W hW hn fr hfr K hK => ?_
            simp only [frameL, putL, Act.put, List.setIfInBounds_toArray, List.set_cons_zero, List.set_cons_succ, Nat.zero_add, Nat.reduceAdd] at hfr
            subst hfr
            have HK := Lib.hid hK
            clear hK hn
            go_simp
            have h9 := HK.out
            revert h9
            clear HK
            go_simp
            try exact id
          refine StepsL.cons ?_ ?_
          · refine FreeStep.val [] _ rfl rfl fun u β W hW hn fr hfr K hK => ?_
            simp only [frameL, putL, Act.put, List.setIfInBounds_toArray, List.set_cons_zero, List.set_cons_succ, Nat.zero_add, Nat.reduceAdd] at hfr
            subst hfr
            have e3 : u 3 = .slice (some ⟨g1, 0, none⟩) 2 k1 := Have.get (k := 3) hn rfl
            have e4 : u 4 = .int .i64 0 := Have.get (k := 4) hn rfl
            simp only [e3, e4] at hK
            have HK := Lib.hid hK
            clear hK hn
            go_simp
            have h9 := HK.out
            revert h9
            clear HK
            go_simp
            try exact id
          refine StepsL.cons ?_ ?_
          · refine FreeStep.val [] _ rfl rfl fun u β W hW hn fr hfr K hK => ?_
            simp only [frameL, putL, Act.put, List.setIfInBounds_toArray, List.set_cons_zero, List.set_cons_succ, Nat.zero_add, Nat.reduceAdd] at hfr
            subst hfr
            have e5 : u 5 = .pointer (some ⟨g1, 0, none⟩) := Have.get (k := 5) hn rfl
            simp only [e5] at hK
            have c0 := cellL HC.out.2.2.1 hW
            have HK := Lib.hid hK
            clear hK hn
            go_simp
            have h9 := HK.out
            revert h9
            clear HK
            go_simp
            try exact id
          refine StepsL.cons ?_ ?_
          · refine FreeStep.val [] _ rfl rfl fun u β W hW hn fr hfr K hK => ?_
            simp only [frameL, putL, Act.put, List.setIfInBounds_toArray, List.set_cons_zero, List.set_cons_succ, Nat.zero_add, Nat.reduceAdd] at hfr
            subst hfr
            have HK := Lib.hid hK
            clear hK hn
            go_simp
            have h9 := HK.out
            revert h9
            clear HK
            go_simp
            try exact id
          refine StepsL.cons ?_ ?_
          · refine FreeStep.val [] _ rfl rfl fun u β W hW hn fr hfr K hK => ?_
            simp only [frameL, putL, Act.put, List.setIfInBounds_toArray, List.set_cons_zero, List.set_cons_succ, Nat.zero_add, Nat.reduceAdd] at hfr
            subst hfr
            have HK := Lib.hid hK
            clear hK hn
            go_simp
            have h9 := HK.out
            revert h9
            clear HK
            go_simp
            try exact id
          refine StepsL.cons ?_ ?_
          · refine FreeStep.val [] _ rfl rfl fun u β W hW hn fr hfr K hK => ?_
            simp only [frameL, putL, Act.put, List.setIfInBounds_toArray, List.set_cons_zero, List.set_cons_succ, Nat.zero_add, Nat.reduceAdd] at hfr
            subst hfr
            have e8 : u 8 = .int .i64 0 := Have.get (k := 8) hn rfl
            simp only [e8] at hK
            have HK := Lib.hid hK
            clear hK hn
            go_simp
            have h9 := HK.out
            revert h9
            clear HK
            go_simp
            try exact id
          refine StepsL.cons ?_ ?_
          · refine FreeStep.val [] _ rfl rfl fun u β W hW hn fr hfr K hK => ?_
            simp only [frameL, putL, Act.put, List.setIfInBounds_toArray, List.set_cons_zero, List.set_cons_succ, Nat.zero_add, Nat.reduceAdd] at hfr
            subst hfr
            have HK := Lib.hid hK
            clear hK hn
            go_simp
            have h9 := HK.out
            revert h9
            clear HK
            go_simp
            try exact id
          refine StepsL.cons ?_ ?_
          · refine FreeStep.val [] _ rfl rfl fun u β W hW hn fr hfr K hK => ?_
            simp only [frameL, putL, Act.put, List.setIfInBounds_toArray, List.set_cons_zero, List.set_cons_succ, Nat.zero_add, Nat.reduceAdd] at hfr
            subst hfr
            have e10 : u 10 = .int .i64 0 := Have.get (k := 10) hn rfl
            simp only [e10] at hK
            have HK := Lib.hid hK
            clear hK hn
            go_simp
            have h9 := HK.out
            revert h9
            clear HK
            go_simp
            try exact id
          refine StepsL.cons ?_ ?_
          · refine FreeStep.val [] _ rfl rfl fun u β W hW hn fr hfr K hK => ?_
            simp only [frameL, putL, Act.put, List.setIfInBounds_toArray, List.set_cons_zero, List.set_cons_succ, Nat.zero_add, Nat.reduceAdd] at hfr
            subst hfr
            have e7 : u 7 = .string s := Have.get (k := 7) hn rfl
            have e9 : u 9 = .int .i64 2 := Have.get (k := 9) hn rfl
            have e11 : u 11 = .int .i64 3 := Have.get (k := 11) hn rfl
            simp only [e7, e9, e11] at hK
            have HK := Lib.hid hK
            clear hK hn
            go_simp
            have h9 := HK.out
            revert h9
            clear HK
            go_simp
            try exact id
          refine StepsL.cons ?_ ?_
          · refine FreeStep.val [] _ rfl rfl fun u β W hW hn fr hfr K hK => ?_
            simp only [frameL, putL, Act.put, List.setIfInBounds_toArray, List.set_cons_zero, List.set_cons_succ, Nat.zero_add, Nat.reduceAdd] at hfr
            subst hfr
            have e6 : u 6 = .slice (some ⟨g2, 0, none⟩) 2 k2 := Have.get (k := 6) hn rfl
            simp only [e6] at hK
            have HK := Lib.hid hK
            clear hK hn
            go_simp
            have h9 := HK.out
            revert h9
            clear HK
            go_simp
            try exact id
          refine StepsL.cons ?_ ?_
          · refine FreeStep.val [] _ rfl rfl fun u β W hW hn fr hfr K hK => ?_
            simp only [frameL, putL, Act.put, List.setIfInBounds_toArray, List.set_cons_zero, List.set_cons_succ, Nat.zero_add, Nat.reduceAdd] at hfr
            subst hfr
            have e13 : u 13 = .pointer (some ⟨g2, 0, none⟩) := Have.get (k := 13) hn rfl
            simp only [e13] at hK
            have HK := Lib.hid hK
            clear hK hn
            go_simp
            have h9 := HK.out
            revert h9
            clear HK
            go_simp
            try exact id
          intro u β W9 hW hn hdis hbnd fr hfr K hK
          simp only [frameL, putL, Act.put, List.setIfInBounds_toArray, List.set_cons_zero, List.set_cons_succ, Nat.zero_add, Nat.reduceAdd] at hfr
          subst hfr
          have e12 : u 12 = .string ⟨#[x2]⟩ := Have.get (k := 12) hn rfl
          have e14 : u 14 = .pointer (some ⟨g2, 1, none⟩) := Have.get (k := 14) hn rfl
          have HK := Lib.hid hK
          clear hn hdis hbnd hK
          have c0 := cellL HC.out.2.2.2.1 hW
          have z0 := HC.out.2.2.2.2.1 W9 hW
          have l0 : g2 < W9.heap.size := Nat.lt_of_lt_of_le HC.out.2.2.2.2.2 hW.size
          have HP := Lib.hid (HP9.out W9 hW)
          clear hW HC HP9
          go_simp
          refine HK.out _ _ ?_
          clear HK c0 z0 l0
          generalize u 0 = s0 at *
          generalize u 1 = s1 at *
          generalize u 2 = s2 at *
          generalize u 3 = s3 at *
          generalize u 4 = s4 at *
          generalize u 5 = s5 at *
          generalize u 6 = s6 at *
          generalize u 7 = s7 at *
          generalize u 8 = s8 at *
          generalize u 9 = s9 at *
          generalize u 10 = s10 at *
          generalize u 11 = s11 at *
          generalize u 12 = s12 at *
          generalize u 13 = s13 at *
          generalize u 14 = s14 at *
          obtain ⟨Y2, hX1⟩ : ∃ X, X = W9.setCell ⟨g2, 1, none⟩ (.string ⟨#[x2]⟩) := ⟨_, rfl⟩
          have HX1 := Lib.hid hX1
          rw [← hX1] at HP
          rw [← HX1.out]
          have HA_Y2 := HP
          clear hX1 HP HX1
          obtain ⟨hA, hB⟩ := HA_Y2.out
          obtain ⟨g0, k0, g1, k1, g2, k2, hc0, hc1, hc1', hc2, hfz, ⟨hb', hg0, hg1, hg2⟩, hput⟩ := hA.at_ret (i := 0) (s := 0) (j := 1) (o := 3) (q := 1) (lists := [[(0, ⟨#[x2]⟩), (0, ⟨#[41]⟩)], (List.replicate 2 (0, ⟨#[93]⟩))]) (row := [(0, ⟨#[x2]⟩), (0, ⟨#[41]⟩)]) (p := (0, ⟨#[41]⟩)) rfl rfl rfl rfl rfl
          have hc0 : Y2.cell? ⟨b, 3, none⟩ = some (.slice (some ⟨g0, 0, none⟩) 1 k0) := hc0
          have hc1 : Y2.cell? ⟨g0, 0, none⟩ = some (.slice (some ⟨g1, 0, none⟩) 2 k1) := hc1
          have hc1' : Y2.cell? ⟨g1, 0, none⟩ = some (.slice (some ⟨g2, 0, none⟩) 2 k2) := hc1'
          have HC := Lib.hid (And.intro hc0 (And.intro hc1 (And.intro hc1' (And.intro hc2 (And.intro hfz hg2)))))
          have HP9 : Hid (∀ W', Below Y2.heap.size Y2 W' → RwAt Wr.heap.size (W'.setCell ⟨g2, 3, none⟩ (.string ⟨#[x2]⟩)) b (lit1 1 (0, 0, ⟨#[x0]⟩) (0, 0, ⟨#[91]⟩) [(0, ⟨#[x2]⟩), (0, ⟨#[x2]⟩)] (List.replicate 2 (0, ⟨#[93]⟩)) (0, ⟨#[97]⟩) (0, ⟨#[98]⟩)) b1 b2 b3 ∧ Below Wr.heap.size Wr (W'.setCell ⟨g2, 3, none⟩ (.string ⟨#[x2]⟩))) := fun W' hW' => by
            have h9 := hput W' hW' (0, ⟨#[x2]⟩) (.string ⟨#[x2]⟩) rfl
            exact ⟨h9.1, hB.trans h9.2⟩
          clear hput hfz hA hB hc0 hc1 hc2 hc1' HA_Y2
          go_upto_region 9 with fail
          refine wp_region_free_last (by kernel_rfl) [
              .val [] (fun _ => .pointer (some ⟨b, 3, none⟩)),
              .val [] (fun _ => .slice (some ⟨g0, 0, none⟩) 1 k0),
              .val [] (fun _ => .pointer (some ⟨g0, 0, none⟩)),
              .val [] (fun _ => .slice (some ⟨g1, 0, none⟩) 2 k1),
              .val [] (fun _ => .int .i64 0),
              .val [] (fun _ => .pointer (some ⟨g1, 0, none⟩)),
              .val [] (fun _ => .slice (some ⟨g2, 0, none⟩) 2 k2),
              .val [] (fun _ => .string s),
              .val [] (fun _ => .int .i64 0),
              .val [] (fun _ => .int .i64 2),
              .val [] (fun _ => .int .i64 0),
              .val [] (fun _ => .int .i64 3),
              .val [] (fun _ => .string ⟨#[x2]⟩),
              .val [] (fun _ => .pointer (some ⟨g2, 2, none⟩)),
              .val [] (fun _ => .pointer (some ⟨g2, 3, none⟩))] ?hp ?hfw ?deps ?oks ?hl ?hpos ?steps
          case hp => kernel_rfl
          case hfw => kernel_rfl
          case deps => kernel_rfl
          case hl => kernel_rfl
          case hpos => kernel_rfl
          case oks =>
            intro F hF
            simp only [List.mem_cons, List.not_mem_nil, or_false] at hF
            rcases hF with rfl | rfl | rfl | rfl | rfl | rfl | rfl | rfl | rfl | rfl | rfl | rfl | rfl | rfl | rfl
            all_goals trivial
          case steps =>
            refine StepsL.cons ?_ ?_
            · refine FreeStep.val [] _ rfl rfl fun u β W hW hn fr hfr K hK => ?_
              simp only [frameL, putL, Act.put, List.setIfInBounds_toArray, List.set_cons_zero, List.set_cons_succ, Nat.zero_add, Nat.reduceAdd] at hfr
              subst hfr
              have HK := Lib.hid hK
              clear hK hn
              go_simp
              have h9 := HK.out
              revert h9
              clear HK
              go_simp
              try exact id
            refine StepsL.cons ?_ ?_
            · refine FreeStep.val [] _ rfl rfl fun u β W hW hn fr hfr K hK => ?_
              simp only [frameL, putL, Act.put, List.setIfInBounds_toArray, List.set_cons_zero, List.set_cons_succ, Nat.zero_add, Nat.reduceAdd] at hfr
              subst hfr
              have e0 : u 0 = .pointer (some ⟨b, 3, none⟩) := Have.get (k := 0) hn rfl
              simp only [e0] at hK
              have c0 := cellL HC.out.1 hW
              have HK := Lib.hid hK
              clear hK hn
              go_simp
              have h9 := HK.out
              revert h9
              clear HK
              go_simp
              try exact id
            refine StepsL.cons ?_ ?_
            · refine FreeStep.val [] _ rfl rfl fun u β W hW hn fr hfr K hK => ?_
              simp only [frameL, putL, Act.put, List.setIfInBounds_toArray, List.set_cons_zero, List.set_cons_succ, Nat.zero_add, Nat.reduceAdd] at hfr
              subst hfr
              have e1 : u 1 = .slice (some ⟨g0, 0, none⟩) 1 k0 := Have.get (k := 1) hn rfl
              simp only [e1] at hK
              have HK := Lib.hid hK
              clear hK hn
              go_simp
              have h9 := HK.out
              revert h9
              clear HK
              go_simp
              try exact id
            refine StepsL.cons ?_ ?_
            · refine FreeStep.val [] _ rfl rfl fun u β W hW hn fr hfr K hK => ?_
              simp only [frameL, putL, Act.put, List.setIfInBounds_toArray, List.set_cons_zero, List.set_cons_succ, Nat.zero_add, Nat.reduceAdd] at hfr
              subst hfr
              have e2 : u 2 = .pointer (some ⟨g0, 0, none⟩) := Have.get (k := 2) hn rfl
              simp only [e2] at hK
              have c0 := cellL HC.out.2.1 hW
              have HK := Lib.hid hK
              clear hK hn
              go_simp
              have h9 := HK.out
              revert h9
              clear HK
              go_simp
              try exact id
            refine StepsL.cons ?_ ?_
            · refine FreeStep.val [] _ rfl rfl fun u β W hW hn fr hfr K hK => ?_
              simp only [frameL, putL, Act.put, List.setIfInBounds_toArray, List.set_cons_zero, List.set_cons_succ, Nat.zero_add, Nat.reduceAdd] at hfr
              subst hfr
              have HK := Lib.hid hK
              clear hK hn
              go_simp
              have h9 := HK.out
              revert h9
              clear HK
              go_simp
              try exact id
            refine StepsL.cons ?_ ?_
            · refine FreeStep.val [] _ rfl rfl fun u β W hW hn fr hfr K hK => ?_
              simp only [frameL, putL, Act.put, List.setIfInBounds_toArray, List.set_cons_zero, List.set_cons_succ, Nat.zero_add, Nat.reduceAdd] at hfr
              subst hfr
              have e3 : u 3 = .slice (some ⟨g1, 0, none⟩) 2 k1 := Have.get (k := 3) hn rfl
              have e4 : u 4 = .int .i64 0 := Have.get (k := 4) hn rfl
              simp only [e3, e4] at hK
              have HK := Lib.hid hK
              clear hK hn
              go_simp
              have h9 := HK.out
              revert h9
              clear HK
              go_simp
              try exact id
            refine StepsL.cons ?_ ?_
            · refine FreeStep.val [] _ rfl rfl fun u β W hW hn fr hfr K hK => ?_
              simp only [frameL, putL, Act.put, List.setIfInBounds_toArray, List.set_cons_zero, List.set_cons_succ, Nat.zero_add, Nat.reduceAdd] at hfr
              subst hfr
              have e5 : u 5 = .pointer (some ⟨g1, 0, none⟩) := Have.get (k := 5) hn rfl
              simp only [e5] at hK
              have c0 := cellL HC.out.2.2.1 hW
              have HK := Lib.hid hK
              clear hK hn
              go_simp
              have h9 := HK.out
              revert h9
              clear HK
              go_simp
              try exact id
            refine StepsL.cons ?_ ?_
            · refine FreeStep.val [] _ rfl rfl fun u β W hW hn fr hfr K hK => ?_
              simp only [frameL, putL, Act.put, List.setIfInBounds_toArray, List.set_cons_zero, List.set_cons_succ, Nat.zero_add, Nat.reduceAdd] at hfr
              subst hfr
              have HK := Lib.hid hK
              clear hK hn
              go_simp
              have h9 := HK.out
              revert h9
              clear HK
              go_simp
              try exact id
            refine StepsL.cons ?_ ?_
            · refine FreeStep.val [] _ rfl rfl fun u β W hW hn fr hfr K hK => ?_
              simp only [frameL, putL, Act.put, List.setIfInBounds_toArray, List.set_cons_zero, List.set_cons_succ, Nat.zero_add, Nat.reduceAdd] at hfr
              subst hfr
              have HK := Lib.hid hK
              clear hK hn
              go_simp
              have h9 := HK.out
              revert h9
              clear HK
              go_simp
              try exact id
            refine StepsL.cons ?_ ?_
            · refine FreeStep.val [] _ rfl rfl fun u β W hW hn fr hfr K hK => ?_
              simp only [frameL, putL, Act.put, List.setIfInBounds_toArray, List.set_cons_zero, List.set_cons_succ, Nat.zero_add, Nat.reduceAdd] at hfr
              subst hfr
              have e8 : u 8 = .int .i64 0 := Have.get (k := 8) hn rfl
              simp only [e8] at hK
              have HK := Lib.hid hK
              clear hK hn
              go_simp
              have h9 := HK.out
              revert h9
              clear HK
              go_simp
              try exact id
            refine StepsL.cons ?_ ?_
            · refine FreeStep.val [] _ rfl rfl fun u β W hW hn fr hfr K hK => ?_
              simp only [frameL, putL, Act.put, List.setIfInBounds_toArray, List.set_cons_zero, List.set_cons_succ, Nat.zero_add, Nat.reduceAdd] at hfr
              subst hfr
              have HK := Lib.hid hK
              clear hK hn
              go_simp
              have h9 := HK.out
              revert h9
              clear HK
              go_simp
              try exact id
            refine StepsL.cons ?_ ?_
            · refine FreeStep.val [] _ rfl rfl fun u β W hW hn fr hfr K hK => ?_
              simp only [frameL, putL, Act.put, List.setIfInBounds_toArray, List.set_cons_zero, List.set_cons_succ, Nat.zero_add, Nat.reduceAdd] at hfr
              subst hfr
              have e10 : u 10 = .int .i64 0 := Have.get (k := 10) hn rfl
              simp only [e10] at hK
              have HK := Lib.hid hK
              clear hK hn
              go_simp
              have h9 := HK.out
              revert h9
              clear HK
              go_simp
              try exact id
            refine StepsL.cons ?_ ?_
            · refine FreeStep.val [] _ rfl rfl fun u β W hW hn fr hfr K hK => ?_
              simp only [frameL, putL, Act.put, List.setIfInBounds_toArray, List.set_cons_zero, List.set_cons_succ, Nat.zero_add, Nat.reduceAdd] at hfr
              subst hfr
              have e7 : u 7 = .string s := Have.get (k := 7) hn rfl
              have e9 : u 9 = .int .i64 2 := Have.get (k := 9) hn rfl
              have e11 : u 11 = .int .i64 3 := Have.get (k := 11) hn rfl
              simp only [e7, e9, e11] at hK
              have HK := Lib.hid hK
              clear hK hn
              go_simp
              have h9 := HK.out
              revert h9
              clear HK
              go_simp
              try exact id
            refine StepsL.cons ?_ ?_
            · refine FreeStep.val [] _ rfl rfl fun u β W hW hn fr hfr K hK => ?_
              simp only [frameL, putL, Act.put, List.setIfInBounds_toArray, List.set_cons_zero, List.set_cons_succ, Nat.zero_add, Nat.reduceAdd] at hfr
              subst hfr
              have e6 : u 6 = .slice (some ⟨g2, 0, none⟩) 2 k2 := Have.get (k := 6) hn rfl
              simp only [e6] at hK
              have HK := Lib.hid hK
              clear hK hn
              go_simp
              have h9 := HK.out
              revert h9
              clear HK
              go_simp
              try exact id
            refine StepsL.cons ?_ ?_
            · refine FreeStep.val [] _ rfl rfl fun u β W hW hn fr hfr K hK => ?_
              simp only [frameL, putL, Act.put, List.setIfInBounds_toArray, List.set_cons_zero, List.set_cons_succ, Nat.zero_add, Nat.reduceAdd] at hfr
              subst hfr
              have e13 : u 13 = .pointer (some ⟨g2, 2, none⟩) := Have.get (k := 13) hn rfl
              simp only [e13] at hK
              have HK := Lib.hid hK
              clear hK hn
              go_simp
              have h9 := HK.out
              revert h9
              clear HK
              go_simp
              try exact id
            intro u β W9 hW hn hdis hbnd fr hfr K hK
            simp only [frameL, putL, Act.put, List.setIfInBounds_toArray, List.set_cons_zero, List.set_cons_succ, Nat.zero_add, Nat.reduceAdd] at hfr
            subst hfr
            have e12 : u 12 = .string ⟨#[x2]⟩ := Have.get (k := 12) hn rfl
            have e14 : u 14 = .pointer (some ⟨g2, 3, none⟩) := Have.get (k := 14) hn rfl
            have HK := Lib.hid hK
            clear hn hdis hbnd hK
            have c0 := cellL HC.out.2.2.2.1 hW
            have z0 := HC.out.2.2.2.2.1 W9 hW
            have l0 : g2 < W9.heap.size := Nat.lt_of_lt_of_le HC.out.2.2.2.2.2 hW.size
            have HP := Lib.hid (HP9.out W9 hW)
            clear hW HC HP9
            go_simp
            refine HK.out _ _ ?_
            clear HK c0 z0 l0
            generalize u 0 = s0 at *
            generalize u 1 = s1 at *
            generalize u 2 = s2 at *
            generalize u 3 = s3 at *
            generalize u 4 = s4 at *
            generalize u 5 = s5 at *
            generalize u 6 = s6 at *
            generalize u 7 = s7 at *
            generalize u 8 = s8 at *
            generalize u 9 = s9 at *
            generalize u 10 = s10 at *
            generalize u 11 = s11 at *
            generalize u 12 = s12 at *
            generalize u 13 = s13 at *
            generalize u 14 = s14 at *
            obtain ⟨Y3, hX1⟩ : ∃ X, X = W9.setCell ⟨g2, 3, none⟩ (.string ⟨#[x2]⟩) := ⟨_, rfl⟩
            have HX1 := Lib.hid hX1
            rw [← hX1] at HP
            rw [← HX1.out]
            have HA_Y3 := HP
            clear hX1 HP HX1
            obtain ⟨hA, hB⟩ := HA_Y3.out
            obtain ⟨g0, k0, g1, k1, hc0, hc1, hc2, hfz, ⟨hb', hg0, hg1⟩, hput⟩ := hA.at_inner (i := 0) (j := 0) (o := 1) (q := 1) (row := [(0, ⟨#[97]⟩), (0, ⟨#[98]⟩)]) (p := (0, ⟨#[97]⟩)) rfl rfl rfl rfl
            have hc0 : Y3.cell? ⟨b, 4, none⟩ = some (.slice (some ⟨g0, 0, none⟩) 1 k0) := hc0
            have hc1 : Y3.cell? ⟨g0, 0, none⟩ = some (.slice (some ⟨g1, 0, none⟩) 2 k1) := hc1
            have HC := Lib.hid (And.intro hc0 (And.intro hc1 (And.intro hc2 (And.intro hfz hg1))))
            have HP9 : Hid (∀ W', Below Y3.heap.size Y3 W' → RwAt Wr.heap.size (W'.setCell ⟨g1, 1, none⟩ (.string ⟨#[x4]⟩)) b (lit1 1 (0, 0, ⟨#[x0]⟩) (0, 0, ⟨#[91]⟩) [(0, ⟨#[x2]⟩), (0, ⟨#[x2]⟩)] (List.replicate 2 (0, ⟨#[93]⟩)) (0, ⟨#[x4]⟩) (0, ⟨#[98]⟩)) b1 b2 b3 ∧ Below Wr.heap.size Wr (W'.setCell ⟨g1, 1, none⟩ (.string ⟨#[x4]⟩))) := fun W' hW' => by
              have h9 := hput W' hW' (0, ⟨#[x4]⟩) (.string ⟨#[x4]⟩) rfl
              exact ⟨h9.1, hB.trans h9.2⟩
            clear hput hfz hA hB hc0 hc1 hc2 HA_Y3
            go_upto_region 10 with fail
            refine wp_region_free_last (by kernel_rfl) [
                .val [] (fun _ => .pointer (some ⟨b, 4, none⟩)),
                .val [] (fun _ => .slice (some ⟨g0, 0, none⟩) 1 k0),
                .val [] (fun _ => .pointer (some ⟨g0, 0, none⟩)),
                .val [] (fun _ => .slice (some ⟨g1, 0, none⟩) 2 k1),
                .val [] (fun _ => .int .i64 0),
                .val [] (fun _ => .string s),
                .val [] (fun _ => .int .i64 0),
                .val [] (fun _ => .int .i64 4),
                .val [] (fun _ => .int .i64 0),
                .val [] (fun _ => .int .i64 5),
                .val [] (fun _ => .string ⟨#[x4]⟩),
                .val [] (fun _ => .pointer (some ⟨g1, 0, none⟩)),
                .val [] (fun _ => .pointer (some ⟨g1, 1, none⟩))] ?hp ?hfw ?deps ?oks ?hl ?hpos ?steps
            case hp => kernel_rfl
            case hfw => kernel_rfl
            case deps => kernel_rfl
            case hl => kernel_rfl
            case hpos => kernel_rfl
            case oks =>
              intro F hF
              simp only [List.mem_cons, List.not_mem_nil, or_false] at hF
              rcases hF with rfl | rfl | rfl | rfl | rfl | rfl | rfl | rfl | rfl | rfl | rfl | rfl | rfl
              all_goals trivial
            case steps =>
              refine StepsL.cons ?_ ?_
              · refine FreeStep.val [] _ rfl rfl fun u β W hW hn fr hfr K hK => ?_
                simp only [frameL, putL, Act.put, List.setIfInBounds_toArray, List.set_cons_zero, List.set_cons_succ, Nat.zero_add, Nat.reduceAdd] at hfr
                subst hfr
                have HK := Lib.hid hK
                clear hK hn
                go_simp
                have h9 := HK.out
                revert h9
                clear HK
                go_simp
                try exact id
              refine StepsL.cons ?_ ?_
              · refine FreeStep.val [] _ rfl rfl fun u β W hW hn fr hfr K hK => ?_
                simp only [frameL, putL, Act.put, List.setIfInBounds_toArray, List.set_cons_zero, List.set_cons_succ, Nat.zero_add, Nat.reduceAdd] at hfr
                subst hfr
                have e0 : u 0 = .pointer (some ⟨b, 4, none⟩) := Have.get (k := 0) hn rfl
                simp only [e0] at hK
                have c0 := cellL HC.out.1 hW
                have HK := Lib.hid hK
                clear hK hn
                go_simp
                have h9 := HK.out
                revert h9
                clear HK
                go_simp
                try exact id
              refine StepsL.cons ?_ ?_
              · refine FreeStep.val [] _ rfl rfl fun u β W hW hn fr hfr K hK => ?_
                simp only [frameL, putL, Act.put, List.setIfInBounds_toArray, List.set_cons_zero, List.set_cons_succ, Nat.zero_add, Nat.reduceAdd] at hfr
                subst hfr
                have e1 : u 1 = .slice (some ⟨g0, 0, none⟩) 1 k0 := Have.get (k := 1) hn rfl
                simp only [e1] at hK
                have HK := Lib.hid hK
                clear hK hn
                go_simp
                have h9 := HK.out
                revert h9
                clear HK
                go_simp
                try exact id
              refine StepsL.cons ?_ ?_
              · refine FreeStep.val [] _ rfl rfl fun u β W hW hn fr hfr K hK => ?_
                simp only [frameL, putL, Act.put, List.setIfInBounds_toArray, List.set_cons_zero, List.set_cons_succ, Nat.zero_add, Nat.reduceAdd] at hfr
                subst hfr
                have e2 : u 2 = .pointer (some ⟨g0, 0, none⟩) := Have.get (k := 2) hn rfl
                simp only [e2] at hK
                have c0 := cellL HC.out.2.1 hW
                have HK := Lib.hid hK
                clear hK hn
                go_simp
                have h9 := HK.out
                revert h9
                clear HK
                go_simp
                try exact id
              refine StepsL.cons ?_ ?_
              · refine FreeStep.val [] _ rfl rfl fun u β W hW hn fr hfr K hK => ?_
                simp only [frameL, putL, Act.put, List.setIfInBounds_toArray, List.set_cons_zero, List.set_cons_succ, Nat.zero_add, Nat.reduceAdd] at hfr
                subst hfr
                have HK := Lib.hid hK
                clear hK hn
                go_simp
                have h9 := HK.out
                revert h9
                clear HK
                go_simp
                try exact id
              refine StepsL.cons ?_ ?_
              · refine FreeStep.val [] _ rfl rfl fun u β W hW hn fr hfr K hK => ?_
                simp only [frameL, putL, Act.put, List.setIfInBounds_toArray, List.set_cons_zero, List.set_cons_succ, Nat.zero_add, Nat.reduceAdd] at hfr
                subst hfr
                have HK := Lib.hid hK
                clear hK hn
                go_simp
                have h9 := HK.out
                revert h9
                clear HK
                go_simp
                try exact id
              refine StepsL.cons ?_ ?_
              · refine FreeStep.val [] _ rfl rfl fun u β W hW hn fr hfr K hK => ?_
                simp only [frameL, putL, Act.put, List.setIfInBounds_toArray, List.set_cons_zero, List.set_cons_succ, Nat.zero_add, Nat.reduceAdd] at hfr
                subst hfr
                have HK := Lib.hid hK
                clear hK hn
                go_simp
                have h9 := HK.out
                revert h9
                clear HK
                go_simp
                try exact id
              refine StepsL.cons ?_ ?_
              · refine FreeStep.val [] _ rfl rfl fun u β W hW hn fr hfr K hK => ?_
                simp only [frameL, putL, Act.put, List.setIfInBounds_toArray, List.set_cons_zero, List.set_cons_succ, Nat.zero_add, Nat.reduceAdd] at hfr
                subst hfr
                have e6 : u 6 = .int .i64 0 := Have.get (k := 6) hn rfl
                simp only [e6] at hK
                have HK := Lib.hid hK
                clear hK hn
                go_simp
                have h9 := HK.out
                revert h9
                clear HK
                go_simp
                try exact id
              refine StepsL.cons ?_ ?_
              · refine FreeStep.val [] _ rfl rfl fun u β W hW hn fr hfr K hK => ?_
                simp only [frameL, putL, Act.put, List.setIfInBounds_toArray, List.set_cons_zero, List.set_cons_succ, Nat.zero_add, Nat.reduceAdd] at hfr
                subst hfr
                have HK := Lib.hid hK
                clear hK hn
                go_simp
                have h9 := HK.out
                revert h9
                clear HK
                go_simp
                try exact id
              refine StepsL.cons ?_ ?_
              · refine FreeStep.val [] _ rfl rfl fun u β W hW hn fr hfr K hK => ?_
                simp only [frameL, putL, Act.put, List.setIfInBounds_toArray, List.set_cons_zero, List.set_cons_succ, Nat.zero_add, Nat.reduceAdd] at hfr
                subst hfr
                have e8 : u 8 = .int .i64 0 := Have.get (k := 8) hn rfl
                simp only [e8] at hK
                have HK := Lib.hid hK
                clear hK hn
                go_simp
                have h9 := HK.out
                revert h9
                clear HK
                go_simp
                try exact id
              refine StepsL.cons ?_ ?_
              · refine FreeStep.val [] _ rfl rfl fun u β W hW hn fr hfr K hK => ?_
                simp only [frameL, putL, Act.put, List.setIfInBounds_toArray, List.set_cons_zero, List.set_cons_succ, Nat.zero_add, Nat.reduceAdd] at hfr
                subst hfr
                have e5 : u 5 = .string s := Have.get (k := 5) hn rfl
                have e7 : u 7 = .int .i64 4 := Have.get (k := 7) hn rfl
                have e9 : u 9 = .int .i64 5 := Have.get (k := 9) hn rfl
                simp only [e5, e7, e9] at hK
                have HK := Lib.hid hK
                clear hK hn
                go_simp
                have h9 := HK.out
                revert h9
                clear HK
                go_simp
                try exact id
              refine StepsL.cons ?_ ?_
              · refine FreeStep.val [] _ rfl rfl fun u β W hW hn fr hfr K hK => ?_
                simp only [frameL, putL, Act.put, List.setIfInBounds_toArray, List.set_cons_zero, List.set_cons_succ, Nat.zero_add, Nat.reduceAdd] at hfr
                subst hfr
                have e3 : u 3 = .slice (some ⟨g1, 0, none⟩) 2 k1 := Have.get (k := 3) hn rfl
                have e4 : u 4 = .int .i64 0 := Have.get (k := 4) hn rfl
                simp only [e3, e4] at hK
                have HK := Lib.hid hK
                clear hK hn
                go_simp
                have h9 := HK.out
                revert h9
                clear HK
                go_simp
                try exact id
              refine StepsL.cons ?_ ?_
              · refine FreeStep.val [] _ rfl rfl fun u β W hW hn fr hfr K hK => ?_
                simp only [frameL, putL, Act.put, List.setIfInBounds_toArray, List.set_cons_zero, List.set_cons_succ, Nat.zero_add, Nat.reduceAdd] at hfr
                subst hfr
                have e11 : u 11 = .pointer (some ⟨g1, 0, none⟩) := Have.get (k := 11) hn rfl
                simp only [e11] at hK
                have HK := Lib.hid hK
                clear hK hn
                go_simp
                have h9 := HK.out
                revert h9
                clear HK
                go_simp
                try exact id
              intro u β W9 hW hn hdis hbnd fr hfr K hK
              simp only [frameL, putL, Act.put, List.setIfInBounds_toArray, List.set_cons_zero, List.set_cons_succ, Nat.zero_add, Nat.reduceAdd] at hfr
              subst hfr
              have e10 : u 10 = .string ⟨#[x4]⟩ := Have.get (k := 10) hn rfl
              have e12 : u 12 = .pointer (some ⟨g1, 1, none⟩) := Have.get (k := 12) hn rfl
              have HK := Lib.hid hK
              clear hn hdis hbnd hK
              have c0 := cellL HC.out.2.2.1 hW
              have z0 := HC.out.2.2.2.1 W9 hW
              have l0 : g1 < W9.heap.size := Nat.lt_of_lt_of_le HC.out.2.2.2.2 hW.size
              have HP := Lib.hid (HP9.out W9 hW)
              clear hW HC HP9
              go_simp
              refine HK.out _ _ ?_
              clear HK c0 z0 l0
              generalize u 0 = s0 at *
              generalize u 1 = s1 at *
              generalize u 2 = s2 at *
              generalize u 3 = s3 at *
              generalize u 4 = s4 at *
              generalize u 5 = s5 at *
              generalize u 6 = s6 at *
              generalize u 7 = s7 at *
              generalize u 8 = s8 at *
              generalize u 9 = s9 at *
              generalize u 10 = s10 at *
              generalize u 11 = s11 at *
              generalize u 12 = s12 at *
              obtain ⟨Y4, hX1⟩ : ∃ X, X = W9.setCell ⟨g1, 1, none⟩ (.string ⟨#[x4]⟩) := ⟨_, rfl⟩
              have HX1 := Lib.hid hX1
              rw [← hX1] at HP
              rw [← HX1.out]
              have HA_Y4 := HP
              clear hX1 HP HX1
              go_wp2
              go_roundw
              case rel => exact ⟨1, by omega, by go_num, ⟨_, _, _, HA_Y4.out.1⟩, HA_Y4.out.2⟩
              case measure => simp [intOf]
    · have HA_Y0 := Lib.hid (And.intro (show RwAt Wr.heap.size Y0 b (lit1 1 (0, 0, ⟨#[x0]⟩) (0, 0, ⟨#[91]⟩) [(0, ⟨#[x2]⟩), (0, ⟨#[x2]⟩)] (List.replicate 2 (0, ⟨#[93]⟩)) (0, ⟨#[x4]⟩) (0, ⟨#[98]⟩)) b1 b2 b3 from hA0) hB0)
      clear hA0 hB0 hY0
      obtain ⟨hA, hB⟩ := HA_Y0.out
      obtain ⟨g0, k0, g1, k1, hc0, hc1, hc2, hfz, ⟨hb', hg0, hg1⟩, hput⟩ := hA.at_call (i := 0) (j := 1) (o := 5) (q := 2) (row := [(0, 0, ⟨#[x0]⟩), (0, 0, ⟨#[91]⟩)]) (p := (0, 0, ⟨#[91]⟩)) rfl rfl rfl rfl
      have hc0 : Y0.cell? ⟨b, 2, none⟩ = some (.slice (some ⟨g0, 0, none⟩) 1 k0) := hc0
      have hc1 : Y0.cell? ⟨g0, 0, none⟩ = some (.slice (some ⟨g1, 0, none⟩) 2 k1) := hc1
      have HC := Lib.hid (And.intro hc0 (And.intro hc1 (And.intro hc2 (And.intro hfz hg1))))
      have HP9 : Hid (∀ W', Below Y0.heap.size Y0 W' → RwAt Wr.heap.size (W'.setCell ⟨g1, 5, none⟩ (.string ⟨#[x1]⟩)) b (lit1 1 (0, 0, ⟨#[x0]⟩) (0, 0, ⟨#[x1]⟩) [(0, ⟨#[x2]⟩), (0, ⟨#[x2]⟩)] (List.replicate 2 (0, ⟨#[93]⟩)) (0, ⟨#[x4]⟩) (0, ⟨#[98]⟩)) b1 b2 b3 ∧ Below Wr.heap.size Wr (W'.setCell ⟨g1, 5, none⟩ (.string ⟨#[x1]⟩))) := fun W' hW' => by
        have h9 := hput W' hW' (0, 0, ⟨#[x1]⟩) (.string ⟨#[x1]⟩) rfl
        exact ⟨h9.1, hB.trans h9.2⟩
      clear hput hfz hA hB hc0 hc1 hc2 HA_Y0
      go_upto_region 7 with fail
      refine wp_region_free_last (by kernel_rfl) [
          .val [] (fun _ => .pointer (some ⟨b, 2, none⟩)),
          .val [] (fun _ => .slice (some ⟨g0, 0, none⟩) 1 k0),
          .val [] (fun _ => .pointer (some ⟨g0, 0, none⟩)),
          .val [] (fun _ => .slice (some ⟨g1, 0, none⟩) 2 k1),
          .val [] (fun _ => .int .i64 1),
          .val [] (fun _ => .string s),
          .val [] (fun _ => .int .i64 1),
          .val [] (fun _ => .int .i64 1),
          .val [] (fun _ => .int .i64 2),
          .val [] (fun _ => .string ⟨#[x1]⟩),
          .val [] (fun _ => .pointer (some ⟨g1, 3, none⟩)),
          .val [] (fun _ => .pointer (some ⟨g1, 5, none⟩))] ?hp ?hfw ?deps ?oks ?hl ?hpos ?steps
      case hp => kernel_rfl
      case hfw => kernel_rfl
      case deps => kernel_rfl
      case hl => kernel_rfl
      case hpos => kernel_rfl
      case oks =>
        intro F hF
        simp only [List.mem_cons, List.not_mem_nil, or_false] at hF
        rcases hF with rfl | rfl | rfl | rfl | rfl | rfl | rfl | rfl | rfl | rfl | rfl | rfl
        all_goals trivial
      case steps =>
        refine StepsL.cons ?_ ?_
        · refine FreeStep.val [] _ rfl rfl fun u β W hW hn fr hfr K hK => ?_
          simp only [frameL, putL, Act.put, List.setIfInBounds_toArray, List.set_cons_zero, List.set_cons_succ, Nat.zero_add, Nat.reduceAdd] at hfr
          subst hfr
          have HK := Lib.hid hK
          clear hK hn
          go_simp
          have h9 := HK.out
          revert h9
          clear HK
          go_simp
          try exact id
        refine StepsL.cons ?_ ?_
        · refine FreeStep.val [] _ rfl rfl fun u β W hW hn fr hfr K hK => ?_
          simp only [frameL, putL, Act.put, List.setIfInBounds_toArray, List.set_cons_zero, List.set_cons_succ, Nat.zero_add, Nat.reduceAdd] at hfr
          subst hfr
          have e0 : u 0 = .pointer (some ⟨b, 2, none⟩) := Have.get (k := 0) hn rfl
          simp only [e0] at hK
          have c0 := cellL HC.out.1 hW
          have HK := Lib.hid hK
          clear hK hn
          go_simp
          have h9 := HK.out
          revert h9
          clear HK
          go_simp
          try exact id
        refine StepsL.cons ?_ ?_
        · refine FreeStep.val [] _ rfl rfl fun u β W hW hn fr hfr K hK => ?_
          simp only [frameL, putL, Act.put, List.setIfInBounds_toArray, List.set_cons_zero, List.set_cons_succ, Nat.zero_add, Nat.reduceAdd] at hfr
          subst hfr
          have e1 : u 1 = .slice (some ⟨g0, 0, none⟩) 1 k0 := Have.get (k := 1) hn rfl
          simp only [e1] at hK
          have HK := Lib.hid hK
          clear hK hn
          go_simp
          have h9 := HK.out
          revert h9
          clear HK
          go_simp
          try exact id
        refine StepsL.cons ?_ ?_
        · refine FreeStep.val [] _ rfl rfl fun u β W hW hn fr hfr K hK => ?_
          simp only [frameL, putL, Act.put, List.setIfInBounds_toArray, List.set_cons_zero, List.set_cons_succ, Nat.zero_add, Nat.reduceAdd] at hfr
          subst hfr
          have e2 : u 2 = .pointer (some ⟨g0, 0, none⟩) := Have.get (k := 2) hn rfl
          simp only [e2] at hK
          have c0 := cellL HC.out.2.1 hW
          have HK := Lib.hid hK
          clear hK hn
          go_simp
          have h9 := HK.out
          revert h9
          clear HK
          go_simp
          try exact id
        refine StepsL.cons ?_ ?_
        · refine FreeStep.val [] _ rfl rfl fun u β W hW hn fr hfr K hK => ?_
          simp only [frameL, putL, Act.put, List.setIfInBounds_toArray, List.set_cons_zero, List.set_cons_succ, Nat.zero_add, Nat.reduceAdd] at hfr
          subst hfr
          have HK := Lib.hid hK
          clear hK hn
          go_simp
          have h9 := HK.out
          revert h9
          clear HK
          go_simp
          try exact id
        refine StepsL.cons ?_ ?_
        · refine FreeStep.val [] _ rfl rfl fun u β W hW hn fr hfr K hK => ?_
          simp only [frameL, putL, Act.put, List.setIfInBounds_toArray, List.set_cons_zero, List.set_cons_succ, Nat.zero_add, Nat.reduceAdd] at hfr
          subst hfr
          have HK := Lib.hid hK
          clear hK hn
          go_simp
          have h9 := HK.out
          revert h9
          clear HK
          go_simp
          try exact id
        refine StepsL.cons ?_ ?_
        · refine FreeStep.val [] _ rfl rfl fun u β W hW hn fr hfr K hK => ?_
          simp only [frameL, putL, Act.put, List.setIfInBounds_toArray, List.set_cons_zero, List.set_cons_succ, Nat.zero_add, Nat.reduceAdd] at hfr
          subst hfr
          have HK := Lib.hid hK
          clear hK hn
          go_simp
          have h9 := HK.out
          revert h9
          clear HK
          go_simp
          try exact id
        refine StepsL.cons ?_ ?_
        · refine FreeStep.val [] _ rfl rfl fun u β W hW hn fr hfr K hK => ?_
          simp only [frameL, putL, Act.put, List.setIfInBounds_toArray, List.set_cons_zero, List.set_cons_succ, Nat.zero_add, Nat.reduceAdd] at hfr
          subst hfr
          have HK := Lib.hid hK
          clear hK hn
          go_simp
          have h9 := HK.out
          revert h9
          clear HK
          go_simp
          try exact id
        refine StepsL.cons ?_ ?_
        · refine FreeStep.val [] _ rfl rfl fun u β W hW hn fr hfr K hK => ?_
          simp only [frameL, putL, Act.put, List.setIfInBounds_toArray, List.set_cons_zero, List.set_cons_succ, Nat.zero_add, Nat.reduceAdd] at hfr
          subst hfr
          have e7 : u 7 = .int .i64 1 := Have.get (k := 7) hn rfl
          simp only [e7] at hK
          have HK := Lib.hid hK
          clear hK hn
          go_simp
          have h9 := HK.out
          revert h9
          clear HK
          go_simp
          try exact id
        refine StepsL.cons ?_ ?_
        · refine FreeStep.val [] _ rfl rfl fun u β W hW hn fr hfr K hK => ?_
          simp only [frameL, putL, Act.put, List.setIfInBounds_toArray, List.set_cons_zero, List.set_cons_succ, Nat.zero_add, Nat.reduceAdd] at hfr
          subst hfr
          have e5 : u 5 = .string s := Have.get (k := 5) hn rfl
          have e6 : u 6 = .int .i64 1 := Have.get (k := 6) hn rfl
          have e8 : u 8 = .int .i64 2 := Have.get (k := 8) hn rfl
          simp only [e5, e6, e8] at hK
          have HK := Lib.hid hK
          clear hK hn
          go_simp
          have h9 := HK.out
          revert h9
          clear HK
          go_simp
          try exact id
        refine StepsL.cons ?_ ?_
        · refine FreeStep.val [] _ rfl rfl fun u β W hW hn fr hfr K hK => ?_
          simp only [frameL, putL, Act.put, List.setIfInBounds_toArray, List.set_cons_zero, List.set_cons_succ, Nat.zero_add, Nat.reduceAdd] at hfr
          subst hfr
          have e3 : u 3 = .slice (some ⟨g1, 0, none⟩) 2 k1 := Have.get (k := 3) hn rfl
          have e4 : u 4 = .int .i64 1 := Have.get (k := 4) hn rfl
          simp only [e3, e4] at hK
          have HK := Lib.hid hK
          clear hK hn
          go_simp
          have h9 := HK.out
          revert h9
          clear HK
          go_simp
          try exact id
        refine StepsL.cons ?_ ?_
        · refine FreeStep.val [] _ rfl rfl fun u β W hW hn fr hfr K hK => ?_
          simp only [frameL, putL, Act.put, List.setIfInBounds_toArray, List.set_cons_zero, List.set_cons_succ, Nat.zero_add, Nat.reduceAdd] at hfr
          subst hfr
          have e10 : u 10 = .pointer (some ⟨g1, 3, none⟩) := Have.get (k := 10) hn rfl
          simp only [e10] at hK
          have HK := Lib.hid hK
          clear hK hn
          go_simp
          have h9 := HK.out
          revert h9
          clear HK
          go_simp
          try exact id
        intro u β W9 hW hn hdis hbnd fr hfr K hK
        simp only [frameL, putL, Act.put, List.setIfInBounds_toArray, List.set_cons_zero, List.set_cons_succ, Nat.zero_add, Nat.reduceAdd] at hfr
        subst hfr
        have e9 : u 9 = .string ⟨#[x1]⟩ := Have.get (k := 9) hn rfl
        have e11 : u 11 = .pointer (some ⟨g1, 5, none⟩) := Have.get (k := 11) hn rfl
        have HK := Lib.hid hK
        clear hn hdis hbnd hK
        have c0 := cellL HC.out.2.2.1 hW
        have z0 := HC.out.2.2.2.1 W9 hW
        have l0 : g1 < W9.heap.size := Nat.lt_of_lt_of_le HC.out.2.2.2.2 hW.size
        have HP := Lib.hid (HP9.out W9 hW)
        clear hW HC HP9
        go_simp
        refine HK.out _ _ ?_
        clear HK c0 z0 l0
        generalize u 0 = s0 at *
        generalize u 1 = s1 at *
        generalize u 2 = s2 at *
        generalize u 3 = s3 at *
        generalize u 4 = s4 at *
        generalize u 5 = s5 at *
        generalize u 6 = s6 at *
        generalize u 7 = s7 at *
        generalize u 8 = s8 at *
        generalize u 9 = s9 at *
        generalize u 10 = s10 at *
        generalize u 11 = s11 at *
        obtain ⟨Y1, hX1⟩ : ∃ X, X = W9.setCell ⟨g1, 5, none⟩ (.string ⟨#[x1]⟩) := ⟨_, rfl⟩
        have HX1 := Lib.hid hX1
        rw [← hX1] at HP
        rw [← HX1.out]
        have HA_Y1 := HP
        clear hX1 HP HX1
        obtain ⟨hA, hB⟩ := HA_Y1.out
        obtain ⟨g0, k0, g1, k1, g2, k2, hc0, hc1, hc1', hc2, hfz, ⟨hb', hg0, hg1, hg2⟩, hput⟩ := hA.at_ret (i := 0) (s := 1) (j := 0) (o := 1) (q := 1) (lists := [[(0, ⟨#[x2]⟩), (0, ⟨#[x2]⟩)], (List.replicate 2 (0, ⟨#[93]⟩))]) (row := (List.replicate 2 (0, ⟨#[93]⟩))) (p := (0, ⟨#[93]⟩)) rfl rfl rfl rfl rfl
        have hc0 : Y1.cell? ⟨b, 3, none⟩ = some (.slice (some ⟨g0, 0, none⟩) 1 k0) := hc0
        have hc1 : Y1.cell? ⟨g0, 0, none⟩ = some (.slice (some ⟨g1, 0, none⟩) 2 k1) := hc1
        have hc1' : Y1.cell? ⟨g1, 1, none⟩ = some (.slice (some ⟨g2, 0, none⟩) 2 k2) := hc1'
        have HC := Lib.hid (And.intro hc0 (And.intro hc1 (And.intro hc1' (And.intro hc2 (And.intro hfz hg2)))))
        have HP9 : Hid (∀ W', Below Y1.heap.size Y1 W' → RwAt Wr.heap.size (W'.setCell ⟨g2, 1, none⟩ (.string ⟨#[x3]⟩)) b (lit1 1 (0, 0, ⟨#[x0]⟩) (0, 0, ⟨#[x1]⟩) [(0, ⟨#[x2]⟩), (0, ⟨#[x2]⟩)] [(0, ⟨#[x3]⟩), (0, ⟨#[93]⟩)] (0, ⟨#[x4]⟩) (0, ⟨#[98]⟩)) b1 b2 b3 ∧ Below Wr.heap.size Wr (W'.setCell ⟨g2, 1, none⟩ (.string ⟨#[x3]⟩))) := fun W' hW' => by
          have h9 := hput W' hW' (0, ⟨#[x3]⟩) (.string ⟨#[x3]⟩) rfl
          exact ⟨h9.1, hB.trans h9.2⟩
        clear hput hfz hA hB hc0 hc1 hc2 hc1' HA_Y1
        go_upto_region 8 with fail
        refine wp_region_free_last (by kernel_rfl) [
            .val [] (fun _ => .pointer (some ⟨b, 3, none⟩)),
            .val [] (fun _ => .slice (some ⟨g0, 0, none⟩) 1 k0),
            .val [] (fun _ => .pointer (some ⟨g0, 0, none⟩)),
            .val [] (fun _ => .slice (some ⟨g1, 0, none⟩) 2 k1),
            .val [] (fun _ => .int .i64 1),
            .val [] (fun _ => .pointer (some ⟨g1, 1, none⟩)),
            .val [] (fun _ => .slice (some ⟨g2, 0, none⟩) 2 k2),
            .val [] (fun _ => .string s),
            .val [] (fun _ => .int .i64 1),
            .val [] (fun _ => .int .i64 3),
            .val [] (fun _ => .int .i64 1),
            .val [] (fun _ => .int .i64 4),
            .val [] (fun _ => .string ⟨#[x3]⟩),
            .val [] (fun _ => .pointer (some ⟨g2, 0, none⟩)),
            .val [] (fun _ => .pointer (some ⟨g2, 1, none⟩))] ?hp ?hfw ?deps ?oks ?hl ?hpos ?steps
        case hp => kernel_rfl
        case hfw => kernel_rfl
        case deps => kernel_rfl
        case hl => kernel_rfl
        case hpos => kernel_rfl
        case oks =>
          intro F hF
          simp only [List.mem_cons, List.not_mem_nil, or_false] at hF
          rcases hF with rfl | rfl | rfl | rfl | rfl | rfl | rfl | rfl | rfl | rfl | rfl | rfl | rfl | rfl | rfl
          all_goals trivial
        case steps =>
          refine StepsL.cons ?_ ?_
          · refine FreeStep.val [] _ rfl rfl fun u β W hW hn fr hfr K hK => ?_
            simp only [frameL, putL, Act.put, List.setIfInBounds_toArray, List.set_cons_zero, List.set_cons_succ, Nat.zero_add, Nat.reduceAdd] at hfr
            subst hfr
            have HK := Lib.hid hK
            clear hK hn
            go_simp
            have h9 := HK.out
            revert h9
            clear HK
            go_simp
            try exact id
          refine StepsL.cons ?_ ?_
          · refine FreeStep.val [] _ rfl rfl fun u β W hW hn fr hfr K hK => ?_
            simp only [frameL, putL, Act.put, List.setIfInBounds_toArray, List.set_cons_zero, List.set_cons_succ, Nat.zero_add, Nat.reduceAdd] at hfr
            subst hfr
            have e0 : u 0 = .pointer (some ⟨b, 3, none⟩) := Have.get (k := 0) hn rfl
            simp only [e0] at hK
            have c0 := cellL HC.out.1 hW
            have HK := Lib.hid hK
            clear hK hn
            go_simp
            have h9 := HK.out
            revert h9
            clear HK
            go_simp
            try exact id
          refine StepsL.cons ?_ ?_
          · refine FreeStep.val [] _ rfl rfl fun u β W hW hn fr hfr K hK => ?_
            simp only [frameL, putL, Act.put, List.setIfInBounds_toArray, List.set_cons_zero, List.set_cons_succ, Nat.zero_add, Nat.reduceAdd] at hfr
            subst hfr
            have e1 : u 1 = .slice (some ⟨g0, 0, none⟩) 1 k0 := Have.get (k := 1) hn rfl
            simp only [e1] at hK
            have HK := Lib.hid hK
            clear hK hn
            go_simp
            have h9 := HK.out
            revert h9
            clear HK
            go_simp
            try exact id
          refine StepsL.cons ?_ ?_
          · refine FreeStep.val [] _ rfl rfl fun u β W hW hn fr hfr K hK => ?_
            simp only [frameL, putL, Act.put, List.setIfInBounds_toArray, List.set_cons_zero, List.set_cons_succ, Nat.zero_add, Nat.reduceAdd] at hfr
            subst hfr
            have e2 : u 2 = .pointer (some ⟨g0, 0, none⟩) := Have.get (k := 2) hn rfl
            simp only [e2] at hK
            have c0 := cellL HC.out.2.1 hW
            have HK := Lib.hid hK
            clear hK hn
            go_simp
            have h9 := HK.out
            revert h9
            clear HK
            go_simp
            try exact id
          refine StepsL.cons ?_ ?_
          · refine FreeStep.val [] _ rfl rfl fun u β W hW hn fr hfr K hK => ?_
            simp only [frameL, putL, Act.put, List.setIfInBounds_toArray, List.set_cons_zero, List.set_cons_succ, Nat.zero_add, Nat.reduceAdd] at hfr
            subst hfr
            have HK := Lib.hid hK
            clear hK hn
            go_simp
            have h9 := HK.out
            revert h9
            clear HK
            go_simp
            try exact id
          refine StepsL.cons ?_ ?_
          · refine FreeStep.val [] _ rfl rfl fun u β W hW hn fr hfr K hK => ?_
            simp only [frameL, putL, Act.put, List.setIfInBounds_toArray, List.set_cons_zero, List.set_cons_succ, Nat.zero_add, Nat.reduceAdd] at hfr
            subst hfr
            have e3 : u 3 = .slice (some ⟨g1, 0, none⟩) 2 k1 := Have.get (k := 3) hn rfl
            have e4 : u 4 = .int .i64 1 := Have.get (k := 4) hn rfl
            simp only [e3, e4] at hK
            have HK := Lib.hid hK
            clear hK hn
            go_simp
            have h9 := HK.out
            revert h9
            clear HK
            go_simp
            try exact id
          refine StepsL.cons ?_ ?_
          · refine FreeStep.val [] _ rfl rfl fun u β W hW hn fr hfr K hK => ?_
            simp only [frameL, putL, Act.put, List.setIfInBounds_toArray, List.set_cons_zero, List.set_cons_succ, Nat.zero_add, Nat.reduceAdd] at hfr
            subst hfr
            have e5 : u 5 = .pointer (some ⟨g1, 1, none⟩) := Have.get (k := 5) hn rfl
            simp only [e5] at hK
            have c0 := cellL HC.out.2.2.1 hW
            have HK := Lib.hid hK
            clear hK hn
            go_simp
            have h9 := HK.out
            revert h9
            clear HK
            go_simp
            try exact id
          refine StepsL.cons ?_ ?_
          · refine FreeStep.val [] _ rfl rfl fun u β W hW hn fr hfr K hK => ?_
            simp only [frameL, putL, Act.put, List.setIfInBounds_toArray, List.set_cons_zero, List.set_cons_succ, Nat.zero_add, Nat.reduceAdd] at hfr
            subst hfr
            have HK := Lib.hid hK
            clear hK hn
            go_simp
            have h9 := HK.out
            revert h9
            clear HK
            go_simp
            try exact id
          refine StepsL.cons ?_ ?_
          · refine FreeStep.val [] _ rfl rfl fun u β W hW hn fr hfr K hK => ?_
            simp only [frameL, putL, Act.put, List.setIfInBounds_toArray, List.set_cons_zero, List.set_cons_succ, Nat.zero_add, Nat.reduceAdd] at hfr
            subst hfr
            have HK := Lib.hid hK
            clear hK hn
            go_simp
            have h9 := HK.out
            revert h9
            clear HK
            go_simp
            try exact id
          refine StepsL.cons ?_ ?_
          · refine FreeStep.val [] _ rfl rfl fun u β W hW hn fr hfr K hK => ?_
            simp only [frameL, putL, Act.put, List.setIfInBounds_toArray, List.set_cons_zero, List.set_cons_succ, Nat.zero_add, Nat.reduceAdd] at hfr
            subst hfr
            have e8 : u 8 = .int .i64 1 := Have.get (k := 8) hn rfl
            simp only [e8] at hK
            have HK := Lib.hid hK
            clear hK hn
            go_simp
            have h9 := HK.out
            revert h9
            clear HK
            go_simp
            try exact id
          refine StepsL.cons ?_ ?_
          · refine FreeStep.val [] _ rfl rfl fun u β W hW hn fr hfr K hK => ?_
            simp only [frameL, putL, Act.put, List.setIfInBounds_toArray, List.set_cons_zero, List.set_cons_succ, Nat.zero_add, Nat.reduceAdd] at hfr
            subst hfr
            have HK := Lib.hid hK
            clear hK hn
            go_simp
            have h9 := HK.out
            revert h9
            clear HK
            go_simp
            try exact id
          refine StepsL.cons ?_ ?_
          · refine FreeStep.val [] _ rfl rfl fun u β W hW hn fr hfr K hK => ?_
            simp only [frameL, putL, Act.put, List.setIfInBounds_toArray, List.set_cons_zero, List.set_cons_succ, Nat.zero_add, Nat.reduceAdd] at hfr
            subst hfr
            have e10 : u 10 = .int .i64 1 := Have.get (k := 10) hn rfl
            simp only [e10] at hK
            have HK := Lib.hid hK
            clear hK hn
            go_simp
            have h9 := HK.out
            revert h9
            clear HK
            go_simp
            try exact id
          refine StepsL.cons ?_ ?_
          · refine FreeStep.val [] _ rfl rfl fun u β W hW hn fr hfr K hK => ?_
            simp only [frameL, putL, Act.put, List.setIfInBounds_toArray, List.set_cons_zero, List.set_cons_succ, Nat.zero_add, Nat.reduceAdd] at hfr
            subst hfr
            have e7 : u 7 = .string s := Have.get (k := 7) hn rfl
            have e9 : u 9 = .int .i64 3 := Have.get (k := 9) hn rfl
            have e11 : u 11 = .int .i64 4 := Have.get (k := 11) hn rfl
            simp only [e7, e9, e11] at hK
            have HK := Lib.hid hK
            clear hK hn
            go_simp
            have h9 := HK.out
            revert h9
            clear HK
            go_simp
            try exact id
          refine StepsL.cons ?_ ?_
          · refine FreeStep.val [] _ rfl rfl fun u β W hW hn fr hfr K hK => ?_
            simp only [frameL, putL, Act.put, List.setIfInBounds_toArray, List.set_cons_zero, List.set_cons_succ, Nat.zero_add, Nat.reduceAdd] at hfr
            subst hfr
            have e6 : u 6 = .slice (some ⟨g2, 0, none⟩) 2 k2 := Have.get (k := 6) hn rfl
            simp only [e6] at hK
            have HK := Lib.hid hK
            clear hK hn
            go_simp
            have h9 := HK.out
            revert h9
            clear HK
            go_simp
            try exact id
          refine StepsL.cons ?_ ?_
          · refine FreeStep.val [] _ rfl rfl fun u β W hW hn fr hfr K hK => ?_
            simp only [frameL, putL, Act.put, List.setIfInBounds_toArray, List.set_cons_zero, List.set_cons_succ, Nat.zero_add, Nat.reduceAdd] at hfr
            subst hfr
            have e13 : u 13 = .pointer (some ⟨g2, 0, none⟩) := Have.get (k := 13) hn rfl
            simp only [e13] at hK
            have HK := Lib.hid hK
            clear hK hn
            go_simp
            have h9 := HK.out
            revert h9
            clear HK
            go_simp
            try exact id
          intro u β W9 hW hn hdis hbnd fr hfr K hK
          simp only [frameL, putL, Act.put, List.setIfInBounds_toArray, List.set_cons_zero, List.set_cons_succ, Nat.zero_add, Nat.reduceAdd] at hfr
          subst hfr
          have e12 : u 12 = .string ⟨#[x3]⟩ := Have.get (k := 12) hn rfl
          have e14 : u 14 = .pointer (some ⟨g2, 1, none⟩) := Have.get (k := 14) hn rfl
          have HK := Lib.hid hK
          clear hn hdis hbnd hK
          have c0 := cellL HC.out.2.2.2.1 hW
          have z0 := HC.out.2.2.2.2.1 W9 hW
          have l0 : g2 < W9.heap.size := Nat.lt_of_lt_of_le HC.out.2.2.2.2.2 hW.size
          have HP := Lib.hid (HP9.out W9 hW)
          clear hW HC HP9
          go_simp
          refine HK.out _ _ ?_
          clear HK c0 z0 l0
          generalize u 0 = s0 at *
          generalize u 1 = s1 at *
          generalize u 2 = s2 at *
          generalize u 3 = s3 at *
          generalize u 4 = s4 at *
          generalize u 5 = s5 at *
          generalize u 6 = s6 at *
          generalize u 7 = s7 at *
          generalize u 8 = s8 at *
          generalize u 9 = s9 at *
          generalize u 10 = s10 at *
          generalize u 11 = s11 at *
          generalize u 12 = s12 at *
          generalize u 13 = s13 at *
          generalize u 14 = s14 at *
          obtain ⟨Y2, hX1⟩ : ∃ X, X = W9.setCell ⟨g2, 1, none⟩ (.string ⟨#[x3]⟩) := ⟨_, rfl⟩
          have HX1 := Lib.hid hX1
          rw [← hX1] at HP
          rw [← HX1.out]
          have HA_Y2 := HP
          clear hX1 HP HX1
          obtain ⟨hA, hB⟩ := HA_Y2.out
          obtain ⟨g0, k0, g1, k1, g2, k2, hc0, hc1, hc1', hc2, hfz, ⟨hb', hg0, hg1, hg2⟩, hput⟩ := hA.at_ret (i := 0) (s := 1) (j := 1) (o := 3) (q := 1) (lists := [[(0, ⟨#[x2]⟩), (0, ⟨#[x2]⟩)], [(0, ⟨#[x3]⟩), (0, ⟨#[93]⟩)]]) (row := [(0, ⟨#[x3]⟩), (0, ⟨#[93]⟩)]) (p := (0, ⟨#[93]⟩)) rfl rfl rfl rfl rfl
          have hc0 : Y2.cell? ⟨b, 3, none⟩ = some (.slice (some ⟨g0, 0, none⟩) 1 k0) := hc0
          have hc1 : Y2.cell? ⟨g0, 0, none⟩ = some (.slice (some ⟨g1, 0, none⟩) 2 k1) := hc1
          have hc1' : Y2.cell? ⟨g1, 1, none⟩ = some (.slice (some ⟨g2, 0, none⟩) 2 k2) := hc1'
          have HC := Lib.hid (And.intro hc0 (And.intro hc1 (And.intro hc1' (And.intro hc2 (And.intro hfz hg2)))))
          have HP9 : Hid (∀ W', Below Y2.heap.size Y2 W' → RwAt Wr.heap.size (W'.setCell ⟨g2, 3, none⟩ (.string ⟨#[x3]⟩)) b (lit1 1 (0, 0, ⟨#[x0]⟩) (0, 0, ⟨#[x1]⟩) [(0, ⟨#[x2]⟩), (0, ⟨#[x2]⟩)] [(0, ⟨#[x3]⟩), (0, ⟨#[x3]⟩)] (0, ⟨#[x4]⟩) (0, ⟨#[98]⟩)) b1 b2 b3 ∧ Below Wr.heap.size Wr (W'.setCell ⟨g2, 3, none⟩ (.string ⟨#[x3]⟩))) := fun W' hW' => by
            have h9 := hput W' hW' (0, ⟨#[x3]⟩) (.string ⟨#[x3]⟩) rfl
            exact ⟨h9.1, hB.trans h9.2⟩
          clear hput hfz hA hB hc0 hc1 hc2 hc1' HA_Y2
          go_upto_region 9 with fail
          refine wp_region_free_last (by kernel_rfl) [
              .val [] (fun _ => .pointer (some ⟨b, 3, none⟩)),
              .val [] (fun _ => .slice (some ⟨g0, 0, none⟩) 1 k0),
              .val [] (fun _ => .pointer (some ⟨g0, 0, none⟩)),
              .val [] (fun _ => .slice (some ⟨g1, 0, none⟩) 2 k1),
              .val [] (fun _ => .int .i64 1),
              .val [] (fun _ => .pointer (some ⟨g1, 1, none⟩)),
              .val [] (fun _ => .slice (some ⟨g2, 0, none⟩) 2 k2),
              .val [] (fun _ => .string s),
              .val [] (fun _ => .int .i64 1),
              .val [] (fun _ => .int .i64 3),
              .val [] (fun _ => .int .i64 1),
              .val [] (fun _ => .int .i64 4),
              .val [] (fun _ => .string ⟨#[x3]⟩),
              .val [] (fun _ => .pointer (some ⟨g2, 2, none⟩)),
              .val [] (fun _ => .pointer (some ⟨g2, 3, none⟩))] ?hp ?hfw ?deps ?oks ?hl ?hpos ?steps
          case hp => kernel_rfl
          case hfw => kernel_rfl
          case deps => kernel_rfl
          case hl => kernel_rfl
          case hpos => kernel_rfl
          case oks =>
            intro F hF
            simp only [List.mem_cons, List.not_mem_nil, or_false] at hF
            rcases hF with rfl | rfl | rfl | rfl | rfl | rfl | rfl | rfl | rfl | rfl | rfl | rfl | rfl | rfl | rfl
            all_goals trivial
          case steps =>
            refine StepsL.cons ?_ ?_
            · refine FreeStep.val [] _ rfl rfl fun u β W hW hn fr hfr K hK => ?_
              simp only [frameL, putL, Act.put, List.setIfInBounds_toArray, List.set_cons_zero, List.set_cons_succ, Nat.zero_add, Nat.reduceAdd] at hfr
              subst hfr
              have HK := Lib.hid hK
              clear hK hn
              go_simp
              have h9 := HK.out
              revert h9
              clear HK
              go_simp
              try exact id
            refine StepsL.cons ?_ ?_
            · refine FreeStep.val [] _ rfl rfl fun u β W hW hn fr hfr K hK => ?_
              simp only [frameL, putL, Act.put, List.setIfInBounds_toArray, List.set_cons_zero, List.set_cons_succ, Nat.zero_add, Nat.reduceAdd] at hfr
              subst hfr
              have e0 : u 0 = .pointer (some ⟨b, 3, none⟩) := Have.get (k := 0) hn rfl
              simp only [e0] at hK
              have c0 := cellL HC.out.1 hW
              have HK := Lib.hid hK
              clear hK hn
              go_simp
              have h9 := HK.out
              revert h9
              clear HK
              go_simp
              try exact id
            refine StepsL.cons ?_ ?_
            · refine FreeStep.val [] _ rfl rfl fun u β W hW hn fr hfr K hK => ?_
              simp only [frameL, putL, Act.put, List.setIfInBounds_toArray, List.set_cons_zero, List.set_cons_succ, Nat.zero_add, Nat.reduceAdd] at hfr
              subst hfr
              have e1 : u 1 = .slice (some ⟨g0, 0, none⟩) 1 k0 := Have.get (k := 1) hn rfl
              simp only [e1] at hK
              have HK := Lib.hid hK
              clear hK hn
              go_simp
              have h9 := HK.out
              revert h9
              clear HK
              go_simp
              try exact id
            refine StepsL.cons ?_ ?_
            · refine FreeStep.val [] _ rfl rfl fun u β W hW hn fr hfr K hK => ?_
              simp only [frameL, putL, Act.put, List.setIfInBounds_toArray, List.set_cons_zero, List.set_cons_succ, Nat.zero_add, Nat.reduceAdd] at hfr
              subst hfr
              have e2 : u 2 = .pointer (some ⟨g0, 0, none⟩) := Have.get (k := 2) hn rfl
              simp only [e2] at hK
              have c0 := cellL HC.out.2.1 hW
              have HK := Lib.hid hK
              clear hK hn
              go_simp
              have h9 := HK.out
              revert h9
              clear HK
              go_simp
              try exact id
            refine StepsL.cons ?_ ?_
            · refine FreeStep.val [] _ rfl rfl fun u β W hW hn fr hfr K hK => ?_
              simp only [frameL, putL, Act.put, List.setIfInBounds_toArray, List.set_cons_zero, List.set_cons_succ, Nat.zero_add, Nat.reduceAdd] at hfr
              subst hfr
              have HK := Lib.hid hK
              clear hK hn
              go_simp
              have h9 := HK.out
              revert h9
              clear HK
              go_simp
              try exact id
            refine StepsL.cons ?_ ?_
            · refine FreeStep.val [] _ rfl rfl fun u β W hW hn fr hfr K hK => ?_
              simp only [frameL, putL, Act.put, List.setIfInBounds_toArray, List.set_cons_zero, List.set_cons_succ, Nat.zero_add, Nat.reduceAdd] at hfr
              subst hfr
              have e3 : u 3 = .slice (some ⟨g1, 0, none⟩) 2 k1 := Have.get (k := 3) hn rfl
              have e4 : u 4 = .int .i64 1 := Have.get (k := 4) hn rfl
              simp only [e3, e4] at hK
              have HK := Lib.hid hK
              clear hK hn
              go_simp
              have h9 := HK.out
              revert h9
              clear HK
              go_simp
              try exact id
            refine StepsL.cons ?_ ?_
            · refine FreeStep.val [] _ rfl rfl fun u β W hW hn fr hfr K hK => ?_
              simp only [frameL, putL, Act.put, List.setIfInBounds_toArray, List.set_cons_zero, List.set_cons_succ, Nat.zero_add, Nat.reduceAdd] at hfr
              subst hfr
              have e5 : u 5 = .pointer (some ⟨g1, 1, none⟩) := Have.get (k := 5) hn rfl
              simp only [e5] at hK
              have c0 := cellL HC.out.2.2.1 hW
              have HK := Lib.hid hK
              clear hK hn
              go_simp
              have h9 := HK.out
              revert h9
              clear HK
              go_simp
              try exact id
            refine StepsL.cons ?_ ?_
            · refine FreeStep.val [] _ rfl rfl fun u β W hW hn fr hfr K hK => ?_
              simp only [frameL, putL, Act.put, List.setIfInBounds_toArray, List.set_cons_zero, List.set_cons_succ, Nat.zero_add, Nat.reduceAdd] at hfr
              subst hfr
              have HK := Lib.hid hK
              clear hK hn
              go_simp
              have h9 := HK.out
              revert h9
              clear HK
              go_simp
              try exact id
            refine StepsL.cons ?_ ?_
            · refine FreeStep.val [] _ rfl rfl fun u β W hW hn fr hfr K hK => ?_
              simp only [frameL, putL, Act.put, List.setIfInBounds_toArray, List.set_cons_zero, List.set_cons_succ, Nat.zero_add, Nat.reduceAdd] at hfr
              subst hfr
              have HK := Lib.hid hK
              clear hK hn
              go_simp
              have h9 := HK.out
              revert h9
              clear HK
              go_simp
              try exact id
            refine StepsL.cons ?_ ?_
            · refine FreeStep.val [] _ rfl rfl fun u β W hW hn fr hfr K hK => ?_
              simp only [frameL, putL, Act.put, List.setIfInBounds_toArray, List.set_cons_zero, List.set_cons_succ, Nat.zero_add, Nat.reduceAdd] at hfr
              subst hfr
              have e8 : u 8 = .int .i64 1 := Have.get (k := 8) hn rfl
              simp only [e8] at hK
              have HK := Lib.hid hK
              clear hK hn
              go_simp
              have h9 := HK.out
              revert h9
              clear HK
              go_simp
              try exact id
            refine StepsL.cons ?_ ?_
            · refine FreeStep.val [] _ rfl rfl fun u β W hW hn fr hfr K hK => ?_
              simp only [frameL, putL, Act.put, List.setIfInBounds_toArray, List.set_cons_zero, List.set_cons_succ, Nat.zero_add, Nat.reduceAdd] at hfr
              subst hfr
              have HK := Lib.hid hK
              clear hK hn
              go_simp
              have h9 := HK.out
              revert h9
              clear HK
              go_simp
              try exact id
            refine StepsL.cons ?_ ?_
            · refine FreeStep.val [] _ rfl rfl fun u β W hW hn fr hfr K hK => ?_
              simp only [frameL, putL, Act.put, List.setIfInBounds_toArray, List.set_cons_zero, List.set_cons_succ, Nat.zero_add, Nat.reduceAdd] at hfr
              subst hfr
              have e10 : u 10 = .int .i64 1 := Have.get (k := 10) hn rfl
              simp only [e10] at hK
              have HK := Lib.hid hK
              clear hK hn
              go_simp
              have h9 := HK.out
              revert h9
              clear HK
              go_simp
              try exact id
            refine StepsL.cons ?_ ?_
            · refine FreeStep.val [] _ rfl rfl fun u β W hW hn fr hfr K hK => ?_
              simp only [frameL, putL, Act.put, List.setIfInBounds_toArray, List.set_cons_zero, List.set_cons_succ, Nat.zero_add, Nat.reduceAdd] at hfr
              subst hfr
              have e7 : u 7 = .string s := Have.get (k := 7) hn rfl
              have e9 : u 9 = .int .i64 3 := Have.get (k := 9) hn rfl
              have e11 : u 11 = .int .i64 4 := Have.get (k := 11) hn rfl
              simp only [e7, e9, e11] at hK
              have HK := Lib.hid hK
              clear hK hn
              go_simp
              have h9 := HK.out
              revert h9
              clear HK
              go_simp
              try exact id
            refine StepsL.cons ?_ ?_
            · refine FreeStep.val [] _ rfl rfl fun u β W hW hn fr hfr K hK => ?_
              simp only [frameL, putL, Act.put, List.setIfInBounds_toArray, List.set_cons_zero, List.set_cons_succ, Nat.zero_add, Nat.reduceAdd] at hfr
              subst hfr
              have e6 : u 6 = .slice (some ⟨g2, 0, none⟩) 2 k2 := Have.get (k := 6) hn rfl
              simp only [e6] at hK
              have HK := Lib.hid hK
              clear hK hn
              go_simp
              have h9 := HK.out
              revert h9
              clear HK
              go_simp
              try exact id
            refine StepsL.cons ?_ ?_
            · refine FreeStep.val [] _ rfl rfl fun u β W hW hn fr hfr K hK => ?_
              simp only [frameL, putL, Act.put, List.setIfInBounds_toArray, List.set_cons_zero, List.set_cons_succ, Nat.zero_add, Nat.reduceAdd] at hfr
              subst hfr
              have e13 : u 13 = .pointer (some ⟨g2, 2, none⟩) := Have.get (k := 13) hn rfl
              simp only [e13] at hK
              have HK := Lib.hid hK
              clear hK hn
              go_simp
              have h9 := HK.out
              revert h9
              clear HK
              go_simp
              try exact id
            intro u β W9 hW hn hdis hbnd fr hfr K hK
            simp only [frameL, putL, Act.put, List.setIfInBounds_toArray, List.set_cons_zero, List.set_cons_succ, Nat.zero_add, Nat.reduceAdd] at hfr
            subst hfr
            have e12 : u 12 = .string ⟨#[x3]⟩ := Have.get (k := 12) hn rfl
            have e14 : u 14 = .pointer (some ⟨g2, 3, none⟩) := Have.get (k := 14) hn rfl
            have HK := Lib.hid hK
            clear hn hdis hbnd hK
            have c0 := cellL HC.out.2.2.2.1 hW
            have z0 := HC.out.2.2.2.2.1 W9 hW
            have l0 : g2 < W9.heap.size := Nat.lt_of_lt_of_le HC.out.2.2.2.2.2 hW.size
            have HP := Lib.hid (HP9.out W9 hW)
            clear hW HC HP9
            go_simp
            refine HK.out _ _ ?_
            clear HK c0 z0 l0
            generalize u 0 = s0 at *
            generalize u 1 = s1 at *
            generalize u 2 = s2 at *
            generalize u 3 = s3 at *
            generalize u 4 = s4 at *
            generalize u 5 = s5 at *
            generalize u 6 = s6 at *
            generalize u 7 = s7 at *
            generalize u 8 = s8 at *
            generalize u 9 = s9 at *
            generalize u 10 = s10 at *
            generalize u 11 = s11 at *
            generalize u 12 = s12 at *
            generalize u 13 = s13 at *
            generalize u 14 = s14 at *
            obtain ⟨Y3, hX1⟩ : ∃ X, X = W9.setCell ⟨g2, 3, none⟩ (.string ⟨#[x3]⟩) := ⟨_, rfl⟩
            have HX1 := Lib.hid hX1
            rw [← hX1] at HP
            rw [← HX1.out]
            have HA_Y3 := HP
            clear hX1 HP HX1
            obtain ⟨hA, hB⟩ := HA_Y3.out
            obtain ⟨g0, k0, g1, k1, hc0, hc1, hc2, hfz, ⟨hb', hg0, hg1⟩, hput⟩ := hA.at_inner (i := 0) (j := 1) (o := 3) (q := 1) (row := [(0, ⟨#[x4]⟩), (0, ⟨#[98]⟩)]) (p := (0, ⟨#[98]⟩)) rfl rfl rfl rfl
            have hc0 : Y3.cell? ⟨b, 4, none⟩ = some (.slice (some ⟨g0, 0, none⟩) 1 k0) := hc0
            have hc1 : Y3.cell? ⟨g0, 0, none⟩ = some (.slice (some ⟨g1, 0, none⟩) 2 k1) := hc1
            have HC := Lib.hid (And.intro hc0 (And.intro hc1 (And.intro hc2 (And.intro hfz hg1))))
            have HP9 : Hid (∀ W', Below Y3.heap.size Y3 W' → RwAt Wr.heap.size (W'.setCell ⟨g1, 3, none⟩ (.string ⟨#[x5]⟩)) b (lit1 1 (0, 0, ⟨#[x0]⟩) (0, 0, ⟨#[x1]⟩) [(0, ⟨#[x2]⟩), (0, ⟨#[x2]⟩)] [(0, ⟨#[x3]⟩), (0, ⟨#[x3]⟩)] (0, ⟨#[x4]⟩) (0, ⟨#[x5]⟩)) b1 b2 b3 ∧ Below Wr.heap.size Wr (W'.setCell ⟨g1, 3, none⟩ (.string ⟨#[x5]⟩))) := fun W' hW' => by
              have h9 := hput W' hW' (0, ⟨#[x5]⟩) (.string ⟨#[x5]⟩) rfl
              exact ⟨h9.1, hB.trans h9.2⟩
            clear hput hfz hA hB hc0 hc1 hc2 HA_Y3
            go_upto_region 10 with fail
            refine wp_region_free_last (by kernel_rfl) [
                .val [] (fun _ => .pointer (some ⟨b, 4, none⟩)),
                .val [] (fun _ => .slice (some ⟨g0, 0, none⟩) 1 k0),
                .val [] (fun _ => .pointer (some ⟨g0, 0, none⟩)),
                .val [] (fun _ => .slice (some ⟨g1, 0, none⟩) 2 k1),
                .val [] (fun _ => .int .i64 1),
                .val [] (fun _ => .string s),
                .val [] (fun _ => .int .i64 1),
                .val [] (fun _ => .int .i64 5),
                .val [] (fun _ => .int .i64 1),
                .val [] (fun _ => .int .i64 6),
                .val [] (fun _ => .string ⟨#[x5]⟩),
                .val [] (fun _ => .pointer (some ⟨g1, 2, none⟩)),
                .val [] (fun _ => .pointer (some ⟨g1, 3, none⟩))] ?hp ?hfw ?deps ?oks ?hl ?hpos ?steps
            case hp => kernel_rfl
            case hfw => kernel_rfl
            case deps => kernel_rfl
            case hl => kernel_rfl
            case hpos => kernel_rfl
            case oks =>
              intro F hF
              simp only [List.mem_cons, List.not_mem_nil, or_false] at hF
              rcases hF with rfl | rfl | rfl | rfl | rfl | rfl | rfl | rfl | rfl | rfl | rfl | rfl | rfl
              all_goals trivial
            case steps =>
              refine StepsL.cons ?_ ?_
              · refine FreeStep.val [] _ rfl rfl fun u β W hW hn fr hfr K hK => ?_
                simp only [frameL, putL, Act.put, List.setIfInBounds_toArray, List.set_cons_zero, List.set_cons_succ, Nat.zero_add, Nat.reduceAdd] at hfr
                subst hfr
                have HK := Lib.hid hK
                clear hK hn
                go_simp
                have h9 := HK.out
                revert h9
                clear HK
                go_simp
                try exact id
              refine StepsL.cons ?_ ?_
              · refine FreeStep.val [] _ rfl rfl fun u β W hW hn fr hfr K hK => ?_
                simp only [frameL, putL, Act.put, List.setIfInBounds_toArray, List.set_cons_zero, List.set_cons_succ, Nat.zero_add, Nat.reduceAdd] at hfr
                subst hfr
                have e0 : u 0 = .pointer (some ⟨b, 4, none⟩) := Have.get (k := 0) hn rfl
                simp only [e0] at hK
                have c0 := cellL HC.out.1 hW
                have HK := Lib.hid hK
                clear hK hn
                go_simp
                have h9 := HK.out
                revert h9
                clear HK
                go_simp
                try exact id
              refine StepsL.cons ?_ ?_
              · refine FreeStep.val [] _ rfl rfl fun u β W hW hn fr hfr K hK => ?_
                simp only [frameL, putL, Act.put, List.setIfInBounds_toArray, List.set_cons_zero, List.set_cons_succ, Nat.zero_add, Nat.reduceAdd] at hfr
                subst hfr
                have e1 : u 1 = .slice (some ⟨g0, 0, none⟩) 1 k0 := Have.get (k := 1) hn rfl
                simp only [e1] at hK
                have HK := Lib.hid hK
                clear hK hn
                go_simp
                have h9 := HK.out
                revert h9
                clear HK
                go_simp
                try exact id
              refine StepsL.cons ?_ ?_
              · refine FreeStep.val [] _ rfl rfl fun u β W hW hn fr hfr K hK => ?_
                simp only [frameL, putL, Act.put, List.setIfInBounds_toArray, List.set_cons_zero, List.set_cons_succ, Nat.zero_add, Nat.reduceAdd] at hfr
                subst hfr
                have e2 : u 2 = .pointer (some ⟨g0, 0, none⟩) := Have.get (k := 2) hn rfl
                simp only [e2] at hK
                have c0 := cellL HC.out.2.1 hW
                have HK := Lib.hid hK
                clear hK hn
                go_simp
                have h9 := HK.out
                revert h9
                clear HK
                go_simp
                try exact id
              refine StepsL.cons ?_ ?_
              · refine FreeStep.val [] _ rfl rfl fun u β W hW hn fr hfr K hK => ?_
                simp only [frameL, putL, Act.put, List.setIfInBounds_toArray, List.set_cons_zero, List.set_cons_succ, Nat.zero_add, Nat.reduceAdd] at hfr
                subst hfr
                have HK := Lib.hid hK
                clear hK hn
                go_simp
                have h9 := HK.out
                revert h9
                clear HK
                go_simp
                try exact id
              refine StepsL.cons ?_ ?_
              · refine FreeStep.val [] _ rfl rfl fun u β W hW hn fr hfr K hK => ?_
                simp only [frameL, putL, Act.put, List.setIfInBounds_toArray, List.set_cons_zero, List.set_cons_succ, Nat.zero_add, Nat.reduceAdd] at hfr
                subst hfr
                have HK := Lib.hid hK
                clear hK hn
                go_simp
                have h9 := HK.out
                revert h9
                clear HK
                go_simp
                try exact id
              refine StepsL.cons ?_ ?_
              · refine FreeStep.val [] _ rfl rfl fun u β W hW hn fr hfr K hK => ?_
                simp only [frameL, putL, Act.put, List.setIfInBounds_toArray, List.set_cons_zero, List.set_cons_succ, Nat.zero_add, Nat.reduceAdd] at hfr
                subst hfr
                have HK := Lib.hid hK
                clear hK hn
                go_simp
                have h9 := HK.out
                revert h9
                clear HK
                go_simp
                try exact id
              refine StepsL.cons ?_ ?_
              · refine FreeStep.val [] _ rfl rfl fun u β W hW hn fr hfr K hK => ?_
                simp only [frameL, putL, Act.put, List.setIfInBounds_toArray, List.set_cons_zero, List.set_cons_succ, Nat.zero_add, Nat.reduceAdd] at hfr
                subst hfr
                have e6 : u 6 = .int .i64 1 := Have.get (k := 6) hn rfl
                simp only [e6] at hK
                have HK := Lib.hid hK
                clear hK hn
                go_simp
                have h9 := HK.out
                revert h9
                clear HK
                go_simp
                try exact id
              refine StepsL.cons ?_ ?_
              · refine FreeStep.val [] _ rfl rfl fun u β W hW hn fr hfr K hK => ?_
                simp only [frameL, putL, Act.put, List.setIfInBounds_toArray, List.set_cons_zero, List.set_cons_succ, Nat.zero_add, Nat.reduceAdd] at hfr
                subst hfr
                have HK := Lib.hid hK
                clear hK hn
                go_simp
                have h9 := HK.out
                revert h9
                clear HK
                go_simp
                try exact id
              refine StepsL.cons ?_ ?_
              · refine FreeStep.val [] _ rfl rfl fun u β W hW hn fr hfr K hK => ?_
                simp only [frameL, putL, Act.put, List.setIfInBounds_toArray, List.set_cons_zero, List.set_cons_succ, Nat.zero_add, Nat.reduceAdd] at hfr
                subst hfr
                have e8 : u 8 = .int .i64 1 := Have.get (k := 8) hn rfl
                simp only [e8] at hK
                have HK := Lib.hid hK
                clear hK hn
                go_simp
                have h9 := HK.out
                revert h9
                clear HK
                go_simp
                try exact id
              refine StepsL.cons ?_ ?_
              · refine FreeStep.val [] _ rfl rfl fun u β W hW hn fr hfr K hK => ?_
                simp only [frameL, putL, Act.put, List.setIfInBounds_toArray, List.set_cons_zero, List.set_cons_succ, Nat.zero_add, Nat.reduceAdd] at hfr
                subst hfr
                have e5 : u 5 = .string s := Have.get (k := 5) hn rfl
                have e7 : u 7 = .int .i64 5 := Have.get (k := 7) hn rfl
                have e9 : u 9 = .int .i64 6 := Have.get (k := 9) hn rfl
                simp only [e5, e7, e9] at hK
                have HK := Lib.hid hK
                clear hK hn
                go_simp
                have h9 := HK.out
                revert h9
                clear HK
                go_simp
                try exact id
              refine StepsL.cons ?_ ?_
              · refine FreeStep.val [] _ rfl rfl fun u β W hW hn fr hfr K hK => ?_
                simp only [frameL, putL, Act.put, List.setIfInBounds_toArray, List.set_cons_zero, List.set_cons_succ, Nat.zero_add, Nat.reduceAdd] at hfr
                subst hfr
                have e3 : u 3 = .slice (some ⟨g1, 0, none⟩) 2 k1 := Have.get (k := 3) hn rfl
                have e4 : u 4 = .int .i64 1 := Have.get (k := 4) hn rfl
                simp only [e3, e4] at hK
                have HK := Lib.hid hK
                clear hK hn
                go_simp
                have h9 := HK.out
                revert h9
                clear HK
                go_simp
                try exact id
              refine StepsL.cons ?_ ?_
              · refine FreeStep.val [] _ rfl rfl fun u β W hW hn fr hfr K hK => ?_
                simp only [frameL, putL, Act.put, List.setIfInBounds_toArray, List.set_cons_zero, List.set_cons_succ, Nat.zero_add, Nat.reduceAdd] at hfr
                subst hfr
                have e11 : u 11 = .pointer (some ⟨g1, 2, none⟩) := Have.get (k := 11) hn rfl
                simp only [e11] at hK
                have HK := Lib.hid hK
                clear hK hn
                go_simp
                have h9 := HK.out
                revert h9
                clear HK
                go_simp
                try exact id
              intro u β W9 hW hn hdis hbnd fr hfr K hK
              simp only [frameL, putL, Act.put, List.setIfInBounds_toArray, List.set_cons_zero, List.set_cons_succ, Nat.zero_add, Nat.reduceAdd] at hfr
              subst hfr
              have e10 : u 10 = .string ⟨#[x5]⟩ := Have.get (k := 10) hn rfl
              have e12 : u 12 = .pointer (some ⟨g1, 3, none⟩) := Have.get (k := 12) hn rfl
              have HK := Lib.hid hK
              clear hn hdis hbnd hK
              have c0 := cellL HC.out.2.2.1 hW
              have z0 := HC.out.2.2.2.1 W9 hW
              have l0 : g1 < W9.heap.size := Nat.lt_of_lt_of_le HC.out.2.2.2.2 hW.size
              have HP := Lib.hid (HP9.out W9 hW)
              clear hW HC HP9
              go_simp
              refine HK.out _ _ ?_
              clear HK c0 z0 l0
              generalize u 0 = s0 at *
              generalize u 1 = s1 at *
              generalize u 2 = s2 at *
              generalize u 3 = s3 at *
              generalize u 4 = s4 at *
              generalize u 5 = s5 at *
              generalize u 6 = s6 at *
              generalize u 7 = s7 at *
              generalize u 8 = s8 at *
              generalize u 9 = s9 at *
              generalize u 10 = s10 at *
              generalize u 11 = s11 at *
              generalize u 12 = s12 at *
              obtain ⟨Y4, hX1⟩ : ∃ X, X = W9.setCell ⟨g1, 3, none⟩ (.string ⟨#[x5]⟩) := ⟨_, rfl⟩
              have HX1 := Lib.hid hX1
              rw [← hX1] at HP
              rw [← HX1.out]
              have HA_Y4 := HP
              clear hX1 HP HX1
              go_wp2
              go_roundw
              case rel => exact ⟨2, by omega, by go_num, ⟨_, _, _, HA_Y4.out.1⟩, HA_Y4.out.2⟩
              case measure => simp [intOf]
    · have HA_Y0 := Lib.hid (And.intro (show RwAt Wr.heap.size Y0 b (renRw x0 x1 x2 x3 x4 x5) b1 b2 b3 from hA0) hB0)
      clear hA0 hB0 hY0
      obtain ⟨hA, hB⟩ := HA_Y0.out
      obtain ⟨A0, n0, k0, A1, n1, k1, A2, n2, k2, xb, hE⟩ := hA.value
      have xr := HR.out.2.2.same (hB.block _ HR.out.2.1)
      obtain ⟨z0, z1, z2, z3, z4, zl⟩ := id xb.all5
      replace z0 : Y0.cell? ⟨b, 0, none⟩ = some (.int .i64 1) := z0
      replace z1 : Y0.cell? ⟨b, 1, none⟩ = some (.int .i64 0) := z1
      obtain ⟨r0, r1, r2, r3, r4, rl⟩ := id xr.all5
      have q0 := xr.frozen 0
      have q1 := xr.frozen 1
      have q2 := xr.frozen 2
      have q3 := xr.frozen 3
      have q4 := xr.frozen 4
      have Hf := Lib.hid (And.intro hB hE)
      clear hA hB hE xb xr HA_Y0
      go_wp2
      obtain ⟨x5, hF, hBf⟩ := rw_home (x0 := .int .i64 1) (x1 := .int .i64 0) (x2 := .slice A0 n0 k0) (x3 := .slice A1 n1 k1) (x4 := .slice A2 n2 k2) (Nat.le_refl _) HR.out.1 HR.out.2.1 HR.out.2.2 Hf.out.1 Hf.out.2
      have f0 := x5.cell 0 _ rfl
      have f1 := x5.cell 1 _ rfl
      have f2 := x5.cell 2 _ rfl
      have f3 := x5.cell 3 _ rfl
      have f4 := x5.cell 4 _ rfl
      unfold set5 at f0 f1 f2 f3 f4 hF hBf
      exact bodyPost_ret (v := .tuple #[.agg #[.int .i64 1, .int .i64 0, .slice A0 n0 k0, .slice A1 n1 k1, .slice A2 n2 k2], .int .i64 0]) (by simp [results, Try.results30, go_sem, f0, f1, f2, f3, f4]) rfl ⟨_, _, rfl, rw_base (Nat.zero_le _) hF, hBf⟩
end Go.Proofs.Ytmkamodmnplclaa
