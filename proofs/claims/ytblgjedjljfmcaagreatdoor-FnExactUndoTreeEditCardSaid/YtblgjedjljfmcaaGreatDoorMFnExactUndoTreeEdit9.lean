import Derived.Test.YtblgjedjljfmcaaGreatDoorMFnExactUndoTreeEdit7
import Derived.Test.YtblgjedjljfmcaaGreatDoorMFnExactUndoTreeEdit8
/- Edits of trees: what is valid, in plain mathematics; the model's check. -/
namespace Go.Proofs.YtblgjedjljfmcaaGreatDoor
open Go.RowKit
set_option linter.unusedVariables false

/-- Whether a text is a word. -/
def wB (s : ByteArray) : Bool := decide (s.size ≤ 60) && s.data.toList.all fun b => decide (0 ≤ symNo b.toNat)
theorem wB_iff (s : ByteArray) : wB s = true ↔ IsW s := by
  simp only [wB, Bool.and_eq_true, decide_eq_true_eq, List.all_eq_true]
  exact Iff.rfl
theorem wB_no {s : ByteArray} (h : wB s = false) : ¬ IsW s := fun hw => by rw [(wB_iff s).2 hw] at h; cases h
/-- Whether a text is a matched word. -/
def wmB (s : ByteArray) : Bool := wB s && mB s.data.toList
/-- Whether a text is a call and a return. -/
def brkB (s : ByteArray) : Bool := s.data.toList == [40, 41] || s.data.toList == [40, 93] || s.data.toList == [91, 41] || s.data.toList == [91, 93]
def noB (s : ByteArray) : Bool := s.data.toList == []
def txtB (k : Int) (s : ByteArray) : Bool := if k = 1 then wmB s else if k = 4 ∨ k = 5 then brkB s else noB s
/-- Whether an edit is valid. -/
def edB (k a t : Int) (s : ByteArray) : Bool := decide (1 ≤ k ∧ k ≤ 5) && (decide (0 ≤ a ∧ a ≤ 60) && (decide (0 ≤ t ∧ t ≤ 60) && ((decide (k = 4) || decide (t = 0)) && txtB k s)))

theorem ba_ext {t : ByteArray} {l : List UInt8} (h : t.data.toList = l) : t = ⟨l.toArray⟩ := by
  obtain ⟨⟨t⟩⟩ := t
  simp at h
  rw [h]
theorem ba_beq {t : ByteArray} {l : List UInt8} (h : (t.data.toList == l) = false) : (t.toList == l) = false := by
  rw [ByteArray.toList_eq]; exact h
theorem brk_cases (t : ByteArray) : t = ⟨#[40, 41]⟩ ∨ t = ⟨#[40, 93]⟩ ∨ t = ⟨#[91, 41]⟩ ∨ t = ⟨#[91, 93]⟩ ∨
    ((t.data.toList == [40, 41]) = false ∧ (t.data.toList == [40, 93]) = false ∧ (t.data.toList == [91, 41]) = false ∧ (t.data.toList == [91, 93]) = false ∧ brkB t = false) := by
  by_cases h1 : (t.data.toList == [40, 41]) = true
  · exact .inl (ba_ext (by simpa using h1))
  by_cases h2 : (t.data.toList == [40, 93]) = true
  · exact .inr (.inl (ba_ext (by simpa using h2)))
  by_cases h3 : (t.data.toList == [91, 41]) = true
  · exact .inr (.inr (.inl (ba_ext (by simpa using h3))))
  by_cases h4 : (t.data.toList == [91, 93]) = true
  · exact .inr (.inr (.inr (.inl (ba_ext (by simpa using h4)))))
  rw [Bool.not_eq_true] at h1 h2 h3 h4
  exact .inr (.inr (.inr (.inr ⟨h1, h2, h3, h4, by rw [brkB, h1, h2, h3, h4]; rfl⟩)))
theorem no_cases (t : ByteArray) : t = ⟨#[]⟩ ∨ ((t.data.toList == []) = false ∧ noB t = false ∧ 0 < t.size) := by
  by_cases h : (t.data.toList == []) = true
  · exact .inl (ba_ext (by simpa using h))
  · rw [Bool.not_eq_true] at h
    refine .inr ⟨h, h, ?_⟩
    have hl : t.data.toList.length = t.size := by simp
    rcases Nat.eq_zero_or_pos t.size with h0 | h0
    · rw [h0] at hl
      rw [List.length_eq_zero_iff.1 hl] at h
      cases h
    · exact h0
theorem two_bytes {t : ByteArray} (h : t.size = 2) : ∃ a b : UInt8, t = ⟨#[a, b]⟩ := by
  have h1 : t.data.size = 2 := h
  obtain ⟨d⟩ := t
  obtain ⟨l⟩ := d
  match l, h1 with
  | [a, b], _ => exact ⟨a, b, rfl⟩
theorem byte_of {b : UInt8} {n : Nat} (hn : n < 256) (h : (b.toNat : Int) = (n : Int)) : b = UInt8.ofNat n := by
  apply UInt8.toNat_inj.1
  rw [UInt8.toNat_ofNat']
  omega
theorem brk_two (a b : UInt8) : brkB ⟨#[a, b]⟩ = (callB a.toNat && retB b.toNat) := by
  cases hc : callB a.toNat with
  | true =>
    have ha : a = 40 ∨ a = 91 := by
      simp only [callB, decide_eq_true_eq] at hc
      rcases hc with h | h
      · exact .inl (byte_of (n := 40) (by omega) h)
      · exact .inr (byte_of (n := 91) (by omega) h)
    cases hr : retB b.toNat with
    | true =>
      have hb : b = 41 ∨ b = 93 := by
        simp only [retB, decide_eq_true_eq] at hr
        rcases hr with h | h
        · exact .inl (byte_of (n := 41) (by omega) h)
        · exact .inr (byte_of (n := 93) (by omega) h)
      rcases ha with rfl | rfl <;> rcases hb with rfl | rfl <;> rfl
    | false =>
      have n1 : b ≠ 41 := fun e => by subst e; cases hr
      have n2 : b ≠ 93 := fun e => by subst e; cases hr
      have e1 : (b == 41) = false := by simpa using n1
      have e2 : (b == 93) = false := by simpa using n2
      simp [brkB, e1, e2]
  | false =>
    have n1 : a ≠ 40 := fun e => by subst e; cases hc
    have n2 : a ≠ 91 := fun e => by subst e; cases hc
    simp [brkB, n1, n2]
theorem brk_size {t : ByteArray} (h : t.size ≠ 2) : brkB t = false := by
  rcases brk_cases t with rfl | rfl | rfl | rfl | h1
  · exact absurd rfl h
  · exact absurd rfl h
  · exact absurd rfl h
  · exact absurd rfl h
  · exact h1.2.2.2.2
theorem brkB_size {t : ByteArray} (h : brkB t = true) : t.size = 2 := by
  by_cases h2 : t.size = 2
  · exact h2
  · rw [brk_size h2] at h; cases h

theorem in_dec (n a b : Int) (w : World) : Calls Tryz.prog 35 #[.int .i64 n, .int .i64 a, .int .i64 b] w fun e w' => e = .returned (.bool (decide (a ≤ n ∧ n ≤ b))) ∧ w = w' := by
  by_cases h : a ≤ n ∧ n ≤ b
  · rw [decide_eq_true h]
    exact (in_yes n a b w h.1 h.2).mono fun e w' ⟨h1, h2⟩ => ⟨h1, h2.symm⟩
  · rw [decide_eq_false h]
    exact (in_no n a b w (by omega)).mono fun e w' ⟨h1, h2⟩ => ⟨h1, h2.symm⟩
theorem spec_wB (s : ByteArray) (w : World) (hs : s.size ≤ 1048576) : Calls Tryz.prog 27 #[.string s] w fun e w' => e = .returned (.bool (wB s)) ∧ w = w' := by
  cases h : wB s with
  | true => exact spec_ok_yes s w ((wB_iff s).1 h)
  | false => exact spec_ok_no s w hs (wB_no h)

theorem spec_brk (t : ByteArray) (w : World) (ht : t.size ≤ 1048576) : Calls Tryz.prog 36 #[.string t] w fun e w' => e = .returned (.bool (brkB t)) ∧ w = w' := by
  by_cases h2 : t.size = 2
  · obtain ⟨a, b, rfl⟩ := two_bytes h2
    rw [brk_two]
    have HA := Lib.hid (fun w => spec_call (a.toNat : Int) w)
    have HB := Lib.hid (fun w => spec_return (b.toNat : Int) w)
    generalize callB (a.toNat : Int) = x at *
    generalize retB (b.toNat : Int) = y at *
    have hz : (⟨#[a, b]⟩ : ByteArray).size = 2 := rfl
    clear h2 ht
    cases x with
    | true =>
      go_enter Tryz.func36, Tryz.ntmps36
      go_wp2_with fail
      refine (HA.out _).mono ?_
      rintro e w' ⟨rfl, rfl⟩
      go_wp2_with fail
      refine (HB.out _).mono ?_
      rintro e w' ⟨rfl, rfl⟩
      go_wp2
      go_ret
      exact ⟨by simp, rfl⟩
    | false =>
      go_enter Tryz.func36, Tryz.ntmps36
      go_wp2_with fail
      refine (HA.out _).mono ?_
      rintro e w' ⟨rfl, rfl⟩
      go_wp2
      go_ret
      exact ⟨rfl, rfl⟩
  · rw [brk_size h2]
    have hdi : ((t.size : Int) == 2) = false := by
      simp only [beq_eq_false_iff_ne]; omega
    have hdn : decide ((t.size : Int) = 2) = false := by simp; omega
    have hin : ¬ ((t.size : Int) = 2) := by omega
    clear h2
    go_enter Tryz.func36, Tryz.ntmps36
    go_wp2
    go_ret
    exact ⟨rfl, rfl⟩

set_option maxHeartbeats 3200000 in
set_option maxRecDepth 100000 in
theorem spec_edit {B : Nat} (k a t : Int) (s : ByteArray) (w : World) (hs : s.size ≤ 1048576) (hx : Bx w B 25 #[.int .i64 k, .int .i64 a, .int .i64 t, .string s]) :
    Calls Tryz.prog 22 #[.pointer (some ⟨B, 0, none⟩)] w (TupPost (.bool (edB k a t s)) w) := by
  obtain ⟨c0, c1, c2, c3, cl⟩ := id hx.all4
  have Hk := Lib.hid (fun w => in_dec k 1 5 w)
  have Ha := Lib.hid (fun w => in_dec a 0 60 w)
  have Ht := Lib.hid (fun w => in_dec t 0 60 w)
  have Hw := Lib.hid (fun w => spec_wB s w hs)
  have Hm := Lib.hid (fun w h => spec_matched' s w ((wB_iff s).1 h))
  have Hb := Lib.hid (fun w => spec_brk s w hs)
  have HR := Lib.hid (show edB k a t s = (decide (1 ≤ k ∧ k ≤ 5) && (decide (0 ≤ a ∧ a ≤ 60) && (decide (0 ≤ t ∧ t ≤ 60) && ((decide (k = 4) || decide (t = 0)) && txtB k s)))) from rfl)
  obtain ⟨R, hR⟩ : ∃ R, R = edB k a t s := ⟨_, rfl⟩
  rw [← hR] at HR ⊢
  clear hR hx
  by_cases hk : 1 ≤ k ∧ k ≤ 5
  case neg =>
    rw [decide_eq_false hk] at Hk HR
    have e := HR.out
    rw [Bool.false_and] at e
    subst e
    clear hk HR Ha Ht Hw Hm Hb
    go_enter Tryz.func22, Tryz.ntmps22
    go_wp2_with fail
    refine (Hk.out _).mono ?_
    rintro e w' ⟨rfl, rfl⟩
    go_wp2
    go_ret
    exact ⟨rfl, Below.refl _ _⟩
  rw [decide_eq_true hk] at Hk HR
  by_cases ha : 0 ≤ a ∧ a ≤ 60
  case neg =>
    rw [decide_eq_false ha] at Ha HR
    have e := HR.out
    rw [Bool.true_and, Bool.false_and] at e
    subst e
    clear hk ha HR Ht Hw Hm Hb
    go_enter Tryz.func22, Tryz.ntmps22
    go_wp2_with fail
    refine (Hk.out _).mono ?_
    rintro e w' ⟨rfl, rfl⟩
    go_wp2_with fail
    refine (Ha.out _).mono ?_
    rintro e w' ⟨rfl, rfl⟩
    go_wp2
    go_ret
    exact ⟨rfl, Below.refl _ _⟩
  rw [decide_eq_true ha] at Ha HR
  by_cases ht : 0 ≤ t ∧ t ≤ 60
  case neg =>
    rw [decide_eq_false ht] at Ht HR
    have e := HR.out
    rw [Bool.true_and, Bool.true_and, Bool.false_and] at e
    subst e
    clear hk ha ht HR Hw Hm Hb
    go_enter Tryz.func22, Tryz.ntmps22
    go_wp2_with fail
    refine (Hk.out _).mono ?_
    rintro e w' ⟨rfl, rfl⟩
    go_wp2_with fail
    refine (Ha.out _).mono ?_
    rintro e w' ⟨rfl, rfl⟩
    go_wp2_with fail
    refine (Ht.out _).mono ?_
    rintro e w' ⟨rfl, rfl⟩
    go_wp2
    go_ret
    exact ⟨rfl, Below.refl _ _⟩
  rw [decide_eq_true ht] at Ht HR
  rw [Bool.true_and, Bool.true_and, Bool.true_and] at HR
  by_cases h4 : k = 4
  case pos =>
    subst h4
    have e : R = brkB s := HR.out
    rw [← e] at Hb
    clear e HR hk ha ht Hw Hm
    go_enter Tryz.func22, Tryz.ntmps22
    go_wp2_with fail
    refine (Hk.out _).mono ?_
    rintro e w' ⟨rfl, rfl⟩
    go_wp2_with fail
    refine (Ha.out _).mono ?_
    rintro e w' ⟨rfl, rfl⟩
    go_wp2_with fail
    refine (Ht.out _).mono ?_
    rintro e w' ⟨rfl, rfl⟩
    go_wp2_with fail
    refine (Hb.out _).mono ?_
    rintro e w' ⟨rfl, rfl⟩
    go_wp2
    go_ret
    exact ⟨rfl, Below.refl _ _⟩
  by_cases t0 : t = 0
  case neg =>
    rw [decide_eq_false h4] at HR
    rw [decide_eq_false t0] at HR
    have e : R = false := HR.out
    subst e
    have e5 : (t == 0) = false := by simpa using t0
    have e6 : (t != 0) = true := by simpa using t0
    clear hk ha ht HR Hw Hm Hb
    go_enter Tryz.func22, Tryz.ntmps22
    go_wp2_with fail
    refine (Hk.out _).mono ?_
    rintro e w' ⟨rfl, rfl⟩
    go_wp2_with fail
    refine (Ha.out _).mono ?_
    rintro e w' ⟨rfl, rfl⟩
    go_wp2_with fail
    refine (Ht.out _).mono ?_
    rintro e w' ⟨rfl, rfl⟩
    go_wp2
    go_ret
    exact ⟨rfl, Below.refl _ _⟩
  subst t0
  obtain rfl | rfl | rfl | rfl : k = 1 ∨ k = 2 ∨ k = 3 ∨ k = 5 := by omega
  case inl =>
    have e : R = (wB s && mB s.data.toList) := HR.out
    clear HR hk ha ht Hb
    cases hw : wB s with
    | false =>
      rw [hw] at Hw e
      rw [Bool.false_and] at e
      subst e
      clear hw Hm
      go_enter Tryz.func22, Tryz.ntmps22
      go_wp2_with fail
      refine (Hk.out _).mono ?_
      rintro e w' ⟨rfl, rfl⟩
      go_wp2_with fail
      refine (Ha.out _).mono ?_
      rintro e w' ⟨rfl, rfl⟩
      go_wp2_with fail
      refine (Ht.out _).mono ?_
      rintro e w' ⟨rfl, rfl⟩
      go_wp2_with fail
      refine (Hw.out _).mono ?_
      rintro e w' ⟨rfl, rfl⟩
      go_wp2
      go_ret
      exact ⟨rfl, Below.refl _ _⟩
    | true =>
      rw [hw] at Hw e
      rw [Bool.true_and] at e
      have HM := Lib.hid (fun w => Hm.out w hw)
      rw [← e] at HM
      clear hw Hm e
      go_enter Tryz.func22, Tryz.ntmps22
      go_wp2_with fail
      refine (Hk.out _).mono ?_
      rintro e w' ⟨rfl, rfl⟩
      go_wp2_with fail
      refine (Ha.out _).mono ?_
      rintro e w' ⟨rfl, rfl⟩
      go_wp2_with fail
      refine (Ht.out _).mono ?_
      rintro e w' ⟨rfl, rfl⟩
      go_wp2_with fail
      refine (Hw.out _).mono ?_
      rintro e w' ⟨rfl, rfl⟩
      go_wp2_with fail
      refine (HM.out _).mono ?_
      rintro e w' ⟨rfl, hb⟩
      go_wp2
      go_ret
      exact ⟨rfl, hb⟩
  case inr.inr.inr =>
    have e : R = brkB s := HR.out
    rw [← e] at Hb
    clear e HR hk ha ht Hw Hm
    go_enter Tryz.func22, Tryz.ntmps22
    go_wp2_with fail
    refine (Hk.out _).mono ?_
    rintro e w' ⟨rfl, rfl⟩
    go_wp2_with fail
    refine (Ha.out _).mono ?_
    rintro e w' ⟨rfl, rfl⟩
    go_wp2_with fail
    refine (Ht.out _).mono ?_
    rintro e w' ⟨rfl, rfl⟩
    go_wp2_with fail
    refine (Hb.out _).mono ?_
    rintro e w' ⟨rfl, rfl⟩
    go_wp2
    go_ret
    exact ⟨rfl, Below.refl _ _⟩
  all_goals
    have e : R = noB s := HR.out
    clear HR hk ha ht Hw Hm Hb
    rcases no_cases s with rfl | ⟨n1, n2, n3⟩
    · have e2 : R = true := e
      subst e2
      clear e
      go_enter Tryz.func22, Tryz.ntmps22
      go_wp2_with fail
      refine (Hk.out _).mono ?_
      rintro e w' ⟨rfl, rfl⟩
      go_wp2_with fail
      refine (Ha.out _).mono ?_
      rintro e w' ⟨rfl, rfl⟩
      go_wp2_with fail
      refine (Ht.out _).mono ?_
      rintro e w' ⟨rfl, rfl⟩
      go_wp2
      go_ret
      exact ⟨rfl, Below.refl _ _⟩
    · rw [n2] at e
      subst e
      have n4 := ba_beq n1
      clear n2
      go_enter Tryz.func22, Tryz.ntmps22
      go_wp2_with fail
      refine (Hk.out _).mono ?_
      rintro e w' ⟨rfl, rfl⟩
      go_wp2_with fail
      refine (Ha.out _).mono ?_
      rintro e w' ⟨rfl, rfl⟩
      go_wp2_with fail
      refine (Ht.out _).mono ?_
      rintro e w' ⟨rfl, rfl⟩
      go_wp2
      go_ret
      exact ⟨rfl, Below.refl _ _⟩
end Go.Proofs.YtblgjedjljfmcaaGreatDoor
/- An edit that lies anywhere: its four cells; the model's check there. -/
namespace Go.Proofs.YtblgjedjljfmcaaGreatDoor
open Go.RowKit
set_option linter.unusedVariables false

structure EdAt (w : World) (B o : Nat) (k a t : Int) (u : ByteArray) : Prop where
  c0 : w.cell? ⟨B, o, none⟩ = some (.int .i64 k)
  c1 : w.cell? ⟨B, o + 1, none⟩ = some (.int .i64 a)
  c2 : w.cell? ⟨B, o + 2, none⟩ = some (.int .i64 t)
  c3 : w.cell? ⟨B, o + 3, none⟩ = some (.string u)
  lt : B < w.heap.size
section
variable {w W : World} {B o n : Nat} {k a t : Int} {u : ByteArray}
theorem EdAt.all4 (h : EdAt w B o k a t u) : w.cell? ⟨B, o, none⟩ = some (.int .i64 k) ∧ w.cell? ⟨B, o + 1, none⟩ = some (.int .i64 a) ∧ w.cell? ⟨B, o + 2, none⟩ = some (.int .i64 t) ∧ w.cell? ⟨B, o + 3, none⟩ = some (.string u) ∧ B < w.heap.size := ⟨h.c0, h.c1, h.c2, h.c3, h.lt⟩
theorem EdAt.later (h : EdAt w B o k a t u) (hb : Below w.heap.size w W) : EdAt W B o k a t u where
  c0 := (hb.cell (p := ⟨B, o, none⟩) h.lt).trans h.c0
  c1 := (hb.cell (p := ⟨B, o + 1, none⟩) h.lt).trans h.c1
  c2 := (hb.cell (p := ⟨B, o + 2, none⟩) h.lt).trans h.c2
  c3 := (hb.cell (p := ⟨B, o + 3, none⟩) h.lt).trans h.c3
  lt := Nat.lt_of_lt_of_le h.lt hb.size
theorem EdAt.laterN (h : EdAt w B o k a t u) (hb : Below (w.drewN n).heap.size (w.drewN n) W) : EdAt W B o k a t u := EdAt.later (w := w.drewN n) ⟨h.c0, h.c1, h.c2, h.c3, h.lt⟩ hb
theorem Bx.edAt {T : TypeId} (h : Bx w B T #[.int .i64 k, .int .i64 a, .int .i64 t, .string u]) : EdAt w B 0 k a t u := ⟨h.all4.1, h.all4.2.1, h.all4.2.2.1, h.all4.2.2.2.1, h.lt⟩
end

set_option maxHeartbeats 3200000 in
set_option maxRecDepth 100000 in
theorem spec_edit_at {B o : Nat} (k a t : Int) (s : ByteArray) (w : World) (hs : s.size ≤ 1048576) (hx : EdAt w B o k a t s) :
    Calls Tryz.prog 22 #[.pointer (some ⟨B, o, none⟩)] w (TupPost (.bool (edB k a t s)) w) := by
  obtain ⟨c0, c1, c2, c3, cl⟩ := id hx.all4
  have Hk := Lib.hid (fun w => in_dec k 1 5 w)
  have Ha := Lib.hid (fun w => in_dec a 0 60 w)
  have Ht := Lib.hid (fun w => in_dec t 0 60 w)
  have Hw := Lib.hid (fun w => spec_wB s w hs)
  have Hm := Lib.hid (fun w h => spec_matched' s w ((wB_iff s).1 h))
  have Hb := Lib.hid (fun w => spec_brk s w hs)
  have HR := Lib.hid (show edB k a t s = (decide (1 ≤ k ∧ k ≤ 5) && (decide (0 ≤ a ∧ a ≤ 60) && (decide (0 ≤ t ∧ t ≤ 60) && ((decide (k = 4) || decide (t = 0)) && txtB k s)))) from rfl)
  obtain ⟨R, hR⟩ : ∃ R, R = edB k a t s := ⟨_, rfl⟩
  rw [← hR] at HR ⊢
  clear hR hx
  by_cases hk : 1 ≤ k ∧ k ≤ 5
  case neg =>
    rw [decide_eq_false hk] at Hk HR
    have e := HR.out
    rw [Bool.false_and] at e
    subst e
    clear hk HR Ha Ht Hw Hm Hb
    go_enter Tryz.func22, Tryz.ntmps22
    go_wp2_with fail
    refine (Hk.out _).mono ?_
    rintro e w' ⟨rfl, rfl⟩
    go_wp2
    go_ret
    exact ⟨rfl, Below.refl _ _⟩
  rw [decide_eq_true hk] at Hk HR
  by_cases ha : 0 ≤ a ∧ a ≤ 60
  case neg =>
    rw [decide_eq_false ha] at Ha HR
    have e := HR.out
    rw [Bool.true_and, Bool.false_and] at e
    subst e
    clear hk ha HR Ht Hw Hm Hb
    go_enter Tryz.func22, Tryz.ntmps22
    go_wp2_with fail
    refine (Hk.out _).mono ?_
    rintro e w' ⟨rfl, rfl⟩
    go_wp2_with fail
    refine (Ha.out _).mono ?_
    rintro e w' ⟨rfl, rfl⟩
    go_wp2
    go_ret
    exact ⟨rfl, Below.refl _ _⟩
  rw [decide_eq_true ha] at Ha HR
  by_cases ht : 0 ≤ t ∧ t ≤ 60
  case neg =>
    rw [decide_eq_false ht] at Ht HR
    have e := HR.out
    rw [Bool.true_and, Bool.true_and, Bool.false_and] at e
    subst e
    clear hk ha ht HR Hw Hm Hb
    go_enter Tryz.func22, Tryz.ntmps22
    go_wp2_with fail
    refine (Hk.out _).mono ?_
    rintro e w' ⟨rfl, rfl⟩
    go_wp2_with fail
    refine (Ha.out _).mono ?_
    rintro e w' ⟨rfl, rfl⟩
    go_wp2_with fail
    refine (Ht.out _).mono ?_
    rintro e w' ⟨rfl, rfl⟩
    go_wp2
    go_ret
    exact ⟨rfl, Below.refl _ _⟩
  rw [decide_eq_true ht] at Ht HR
  rw [Bool.true_and, Bool.true_and, Bool.true_and] at HR
  by_cases h4 : k = 4
  case pos =>
    subst h4
    have e : R = brkB s := HR.out
    rw [← e] at Hb
    clear e HR hk ha ht Hw Hm
    go_enter Tryz.func22, Tryz.ntmps22
    go_wp2_with fail
    refine (Hk.out _).mono ?_
    rintro e w' ⟨rfl, rfl⟩
    go_wp2_with fail
    refine (Ha.out _).mono ?_
    rintro e w' ⟨rfl, rfl⟩
    go_wp2_with fail
    refine (Ht.out _).mono ?_
    rintro e w' ⟨rfl, rfl⟩
    go_wp2_with fail
    refine (Hb.out _).mono ?_
    rintro e w' ⟨rfl, rfl⟩
    go_wp2
    go_ret
    exact ⟨rfl, Below.refl _ _⟩
  by_cases t0 : t = 0
  case neg =>
    rw [decide_eq_false h4] at HR
    rw [decide_eq_false t0] at HR
    have e : R = false := HR.out
    subst e
    have e5 : (t == 0) = false := by simpa using t0
    have e6 : (t != 0) = true := by simpa using t0
    clear hk ha ht HR Hw Hm Hb
    go_enter Tryz.func22, Tryz.ntmps22
    go_wp2_with fail
    refine (Hk.out _).mono ?_
    rintro e w' ⟨rfl, rfl⟩
    go_wp2_with fail
    refine (Ha.out _).mono ?_
    rintro e w' ⟨rfl, rfl⟩
    go_wp2_with fail
    refine (Ht.out _).mono ?_
    rintro e w' ⟨rfl, rfl⟩
    go_wp2
    go_ret
    exact ⟨rfl, Below.refl _ _⟩
  subst t0
  obtain rfl | rfl | rfl | rfl : k = 1 ∨ k = 2 ∨ k = 3 ∨ k = 5 := by omega
  case inl =>
    have e : R = (wB s && mB s.data.toList) := HR.out
    clear HR hk ha ht Hb
    cases hw : wB s with
    | false =>
      rw [hw] at Hw e
      rw [Bool.false_and] at e
      subst e
      clear hw Hm
      go_enter Tryz.func22, Tryz.ntmps22
      go_wp2_with fail
      refine (Hk.out _).mono ?_
      rintro e w' ⟨rfl, rfl⟩
      go_wp2_with fail
      refine (Ha.out _).mono ?_
      rintro e w' ⟨rfl, rfl⟩
      go_wp2_with fail
      refine (Ht.out _).mono ?_
      rintro e w' ⟨rfl, rfl⟩
      go_wp2_with fail
      refine (Hw.out _).mono ?_
      rintro e w' ⟨rfl, rfl⟩
      go_wp2
      go_ret
      exact ⟨rfl, Below.refl _ _⟩
    | true =>
      rw [hw] at Hw e
      rw [Bool.true_and] at e
      have HM := Lib.hid (fun w => Hm.out w hw)
      rw [← e] at HM
      clear hw Hm e
      go_enter Tryz.func22, Tryz.ntmps22
      go_wp2_with fail
      refine (Hk.out _).mono ?_
      rintro e w' ⟨rfl, rfl⟩
      go_wp2_with fail
      refine (Ha.out _).mono ?_
      rintro e w' ⟨rfl, rfl⟩
      go_wp2_with fail
      refine (Ht.out _).mono ?_
      rintro e w' ⟨rfl, rfl⟩
      go_wp2_with fail
      refine (Hw.out _).mono ?_
      rintro e w' ⟨rfl, rfl⟩
      go_wp2_with fail
      refine (HM.out _).mono ?_
      rintro e w' ⟨rfl, hb⟩
      go_wp2
      go_ret
      exact ⟨rfl, hb⟩
  case inr.inr.inr =>
    have e : R = brkB s := HR.out
    rw [← e] at Hb
    clear e HR hk ha ht Hw Hm
    go_enter Tryz.func22, Tryz.ntmps22
    go_wp2_with fail
    refine (Hk.out _).mono ?_
    rintro e w' ⟨rfl, rfl⟩
    go_wp2_with fail
    refine (Ha.out _).mono ?_
    rintro e w' ⟨rfl, rfl⟩
    go_wp2_with fail
    refine (Ht.out _).mono ?_
    rintro e w' ⟨rfl, rfl⟩
    go_wp2_with fail
    refine (Hb.out _).mono ?_
    rintro e w' ⟨rfl, rfl⟩
    go_wp2
    go_ret
    exact ⟨rfl, Below.refl _ _⟩
  all_goals
    have e : R = noB s := HR.out
    clear HR hk ha ht Hw Hm Hb
    rcases no_cases s with rfl | ⟨n1, n2, n3⟩
    · have e2 : R = true := e
      subst e2
      clear e
      go_enter Tryz.func22, Tryz.ntmps22
      go_wp2_with fail
      refine (Hk.out _).mono ?_
      rintro e w' ⟨rfl, rfl⟩
      go_wp2_with fail
      refine (Ha.out _).mono ?_
      rintro e w' ⟨rfl, rfl⟩
      go_wp2_with fail
      refine (Ht.out _).mono ?_
      rintro e w' ⟨rfl, rfl⟩
      go_wp2
      go_ret
      exact ⟨rfl, Below.refl _ _⟩
    · rw [n2] at e
      subst e
      have n4 := ba_beq n1
      clear n2
      go_enter Tryz.func22, Tryz.ntmps22
      go_wp2_with fail
      refine (Hk.out _).mono ?_
      rintro e w' ⟨rfl, rfl⟩
      go_wp2_with fail
      refine (Ha.out _).mono ?_
      rintro e w' ⟨rfl, rfl⟩
      go_wp2_with fail
      refine (Ht.out _).mono ?_
      rintro e w' ⟨rfl, rfl⟩
      go_wp2
      go_ret
      exact ⟨rfl, Below.refl _ _⟩
end Go.Proofs.YtblgjedjljfmcaaGreatDoor
