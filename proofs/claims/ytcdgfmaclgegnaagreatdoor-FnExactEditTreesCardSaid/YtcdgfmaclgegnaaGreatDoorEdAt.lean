/- An edit that lies anywhere: its four cells; the model's check there. -/
import Derived.Test.YtcdgfmaclgegnaaGreatDoorEdM
namespace Go.Proofs.YtcdgfmaclgegnaaGreatDoor
open Go.RowKit
set_option linter.unusedVariables false

structure EdAt (w : World) (B o : Nat) (k a t : Int) (u : ByteArray) : Prop where
  c0 : w.cell? ⟨B, o, none⟩ = some (.int .i64 k)
  c1 : w.cell? ⟨B, o + 1, none⟩ = some (.int .i64 a)
  c2 : w.cell? ⟨B, o + 2, none⟩ = some (.int .i64 t)
  c3 : w.cell? ⟨B, o + 3, none⟩ = some (.string u)
  lt : B < w.heap.size
section
variable {w W : World} {B o n : Nat} {k a t : Int} {u : ByteArray}
theorem EdAt.all4 (h : EdAt w B o k a t u) : w.cell? ⟨B, o, none⟩ = some (.int .i64 k) ∧ w.cell? ⟨B, o + 1, none⟩ = some (.int .i64 a) ∧ w.cell? ⟨B, o + 2, none⟩ = some (.int .i64 t) ∧ w.cell? ⟨B, o + 3, none⟩ = some (.string u) ∧ B < w.heap.size := ⟨h.c0, h.c1, h.c2, h.c3, h.lt⟩
theorem EdAt.later (h : EdAt w B o k a t u) (hb : Below w.heap.size w W) : EdAt W B o k a t u where
  c0 := (hb.cell (p := ⟨B, o, none⟩) h.lt).trans h.c0
  c1 := (hb.cell (p := ⟨B, o + 1, none⟩) h.lt).trans h.c1
  c2 := (hb.cell (p := ⟨B, o + 2, none⟩) h.lt).trans h.c2
  c3 := (hb.cell (p := ⟨B, o + 3, none⟩) h.lt).trans h.c3
  lt := Nat.lt_of_lt_of_le h.lt hb.size
theorem EdAt.laterN (h : EdAt w B o k a t u) (hb : Below (w.drewN n).heap.size (w.drewN n) W) : EdAt W B o k a t u := EdAt.later (w := w.drewN n) ⟨h.c0, h.c1, h.c2, h.c3, h.lt⟩ hb
theorem Bx.edAt {T : TypeId} (h : Bx w B T #[.int .i64 k, .int .i64 a, .int .i64 t, .string u]) : EdAt w B 0 k a t u := ⟨h.all4.1, h.all4.2.1, h.all4.2.2.1, h.all4.2.2.2.1, h.lt⟩
end

set_option maxHeartbeats 3200000 in
set_option maxRecDepth 100000 in
theorem spec_edit_at {B o : Nat} (k a t : Int) (s : ByteArray) (w : World) (hs : s.size ≤ 1048576) (hx : EdAt w B o k a t s) :
    Calls Tryz.prog 21 #[.pointer (some ⟨B, o, none⟩)] w (TupPost (.bool (edB k a t s)) w) := by
  obtain ⟨c0, c1, c2, c3, cl⟩ := id hx.all4
  have Hk := Lib.hid (fun w => in_dec k 1 5 w)
  have Ha := Lib.hid (fun w => in_dec a 0 60 w)
  have Ht := Lib.hid (fun w => in_dec t 0 60 w)
  have Hw := Lib.hid (fun w => spec_wB s w hs)
  have Hm := Lib.hid (fun w h => spec_matched' s w ((wB_iff s).1 h))
  have Hb := Lib.hid (fun w => spec_brk s w hs)
  have HR := Lib.hid (show edB k a t s = (decide (1 ≤ k ∧ k ≤ 5) && (decide (0 ≤ a ∧ a ≤ 60) && (decide (0 ≤ t ∧ t ≤ 60) && ((decide (k = 4) || decide (t = 0)) && txtB k s)))) from rfl)
  obtain ⟨R, hR⟩ : ∃ R, R = edB k a t s := ⟨_, rfl⟩
  rw [← hR] at HR ⊢
  clear hR hx
  by_cases hk : 1 ≤ k ∧ k ≤ 5
  case neg =>
    rw [decide_eq_false hk] at Hk HR
    have e := HR.out
    rw [Bool.false_and] at e
    subst e
    clear hk HR Ha Ht Hw Hm Hb
    go_enter Tryz.func21, Tryz.ntmps21
    go_wp2_with fail
    refine (Hk.out _).mono ?_
    rintro e w' ⟨rfl, rfl⟩
    go_wp2
    go_ret
    exact ⟨rfl, Below.refl _ _⟩
  rw [decide_eq_true hk] at Hk HR
  by_cases ha : 0 ≤ a ∧ a ≤ 60
  case neg =>
    rw [decide_eq_false ha] at Ha HR
    have e := HR.out
    rw [Bool.true_and, Bool.false_and] at e
    subst e
    clear hk ha HR Ht Hw Hm Hb
    go_enter Tryz.func21, Tryz.ntmps21
    go_wp2_with fail
    refine (Hk.out _).mono ?_
    rintro e w' ⟨rfl, rfl⟩
    go_wp2_with fail
    refine (Ha.out _).mono ?_
    rintro e w' ⟨rfl, rfl⟩
    go_wp2
    go_ret
    exact ⟨rfl, Below.refl _ _⟩
  rw [decide_eq_true ha] at Ha HR
  by_cases ht : 0 ≤ t ∧ t ≤ 60
  case neg =>
    rw [decide_eq_false ht] at Ht HR
    have e := HR.out
    rw [Bool.true_and, Bool.true_and, Bool.false_and] at e
    subst e
    clear hk ha ht HR Hw Hm Hb
    go_enter Tryz.func21, Tryz.ntmps21
    go_wp2_with fail
    refine (Hk.out _).mono ?_
    rintro e w' ⟨rfl, rfl⟩
    go_wp2_with fail
    refine (Ha.out _).mono ?_
    rintro e w' ⟨rfl, rfl⟩
    go_wp2_with fail
    refine (Ht.out _).mono ?_
    rintro e w' ⟨rfl, rfl⟩
    go_wp2
    go_ret
    exact ⟨rfl, Below.refl _ _⟩
  rw [decide_eq_true ht] at Ht HR
  rw [Bool.true_and, Bool.true_and, Bool.true_and] at HR
  by_cases h4 : k = 4
  case pos =>
    subst h4
    have e : R = brkB s := HR.out
    rw [← e] at Hb
    clear e HR hk ha ht Hw Hm
    go_enter Tryz.func21, Tryz.ntmps21
    go_wp2_with fail
    refine (Hk.out _).mono ?_
    rintro e w' ⟨rfl, rfl⟩
    go_wp2_with fail
    refine (Ha.out _).mono ?_
    rintro e w' ⟨rfl, rfl⟩
    go_wp2_with fail
    refine (Ht.out _).mono ?_
    rintro e w' ⟨rfl, rfl⟩
    go_wp2_with fail
    refine (Hb.out _).mono ?_
    rintro e w' ⟨rfl, rfl⟩
    go_wp2
    go_ret
    exact ⟨rfl, Below.refl _ _⟩
  by_cases t0 : t = 0
  case neg =>
    rw [decide_eq_false h4] at HR
    rw [decide_eq_false t0] at HR
    have e : R = false := HR.out
    subst e
    have e5 : (t == 0) = false := by simpa using t0
    have e6 : (t != 0) = true := by simpa using t0
    clear hk ha ht HR Hw Hm Hb
    go_enter Tryz.func21, Tryz.ntmps21
    go_wp2_with fail
    refine (Hk.out _).mono ?_
    rintro e w' ⟨rfl, rfl⟩
    go_wp2_with fail
    refine (Ha.out _).mono ?_
    rintro e w' ⟨rfl, rfl⟩
    go_wp2_with fail
    refine (Ht.out _).mono ?_
    rintro e w' ⟨rfl, rfl⟩
    go_wp2
    go_ret
    exact ⟨rfl, Below.refl _ _⟩
  subst t0
  obtain rfl | rfl | rfl | rfl : k = 1 ∨ k = 2 ∨ k = 3 ∨ k = 5 := by omega
  case inl =>
    have e : R = (wB s && mB s.data.toList) := HR.out
    clear HR hk ha ht Hb
    cases hw : wB s with
    | false =>
      rw [hw] at Hw e
      rw [Bool.false_and] at e
      subst e
      clear hw Hm
      go_enter Tryz.func21, Tryz.ntmps21
      go_wp2_with fail
      refine (Hk.out _).mono ?_
      rintro e w' ⟨rfl, rfl⟩
      go_wp2_with fail
      refine (Ha.out _).mono ?_
      rintro e w' ⟨rfl, rfl⟩
      go_wp2_with fail
      refine (Ht.out _).mono ?_
      rintro e w' ⟨rfl, rfl⟩
      go_wp2_with fail
      refine (Hw.out _).mono ?_
      rintro e w' ⟨rfl, rfl⟩
      go_wp2
      go_ret
      exact ⟨rfl, Below.refl _ _⟩
    | true =>
      rw [hw] at Hw e
      rw [Bool.true_and] at e
      have HM := Lib.hid (fun w => Hm.out w hw)
      rw [← e] at HM
      clear hw Hm e
      go_enter Tryz.func21, Tryz.ntmps21
      go_wp2_with fail
      refine (Hk.out _).mono ?_
      rintro e w' ⟨rfl, rfl⟩
      go_wp2_with fail
      refine (Ha.out _).mono ?_
      rintro e w' ⟨rfl, rfl⟩
      go_wp2_with fail
      refine (Ht.out _).mono ?_
      rintro e w' ⟨rfl, rfl⟩
      go_wp2_with fail
      refine (Hw.out _).mono ?_
      rintro e w' ⟨rfl, rfl⟩
      go_wp2_with fail
      refine (HM.out _).mono ?_
      rintro e w' ⟨rfl, hb⟩
      go_wp2
      go_ret
      exact ⟨rfl, hb⟩
  case inr.inr.inr =>
    have e : R = brkB s := HR.out
    rw [← e] at Hb
    clear e HR hk ha ht Hw Hm
    go_enter Tryz.func21, Tryz.ntmps21
    go_wp2_with fail
    refine (Hk.out _).mono ?_
    rintro e w' ⟨rfl, rfl⟩
    go_wp2_with fail
    refine (Ha.out _).mono ?_
    rintro e w' ⟨rfl, rfl⟩
    go_wp2_with fail
    refine (Ht.out _).mono ?_
    rintro e w' ⟨rfl, rfl⟩
    go_wp2_with fail
    refine (Hb.out _).mono ?_
    rintro e w' ⟨rfl, rfl⟩
    go_wp2
    go_ret
    exact ⟨rfl, Below.refl _ _⟩
  all_goals
    have e : R = noB s := HR.out
    clear HR hk ha ht Hw Hm Hb
    rcases no_cases s with rfl | ⟨n1, n2, n3⟩
    · have e2 : R = true := e
      subst e2
      clear e
      go_enter Tryz.func21, Tryz.ntmps21
      go_wp2_with fail
      refine (Hk.out _).mono ?_
      rintro e w' ⟨rfl, rfl⟩
      go_wp2_with fail
      refine (Ha.out _).mono ?_
      rintro e w' ⟨rfl, rfl⟩
      go_wp2_with fail
      refine (Ht.out _).mono ?_
      rintro e w' ⟨rfl, rfl⟩
      go_wp2
      go_ret
      exact ⟨rfl, Below.refl _ _⟩
    · rw [n2] at e
      subst e
      have n4 := ba_beq n1
      clear n2
      go_enter Tryz.func21, Tryz.ntmps21
      go_wp2_with fail
      refine (Hk.out _).mono ?_
      rintro e w' ⟨rfl, rfl⟩
      go_wp2_with fail
      refine (Ha.out _).mono ?_
      rintro e w' ⟨rfl, rfl⟩
      go_wp2_with fail
      refine (Ht.out _).mono ?_
      rintro e w' ⟨rfl, rfl⟩
      go_wp2
      go_ret
      exact ⟨rfl, Below.refl _ _⟩
end Go.Proofs.YtcdgfmaclgegnaaGreatDoor
