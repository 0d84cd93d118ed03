import Derived.Test.YtblgjedjljfmcaaGreatDoorMFnExactUndoTreeEdit18
import Derived.Test.YtblgjedjljfmcaaGreatDoorMFnExactUndoTreeEdit8
/- ValidTreeEdit of the program. -/
namespace Go.Proofs.YtblgjedjljfmcaaGreatDoor
open Go.RowKit
set_option linter.unusedVariables false

theorem cat_one (x y : UInt8) : (⟨#[x]⟩ ++ ⟨#[]⟩ ++ ⟨#[y]⟩ : ByteArray) = ⟨#[x, y]⟩ := by
  apply ByteArray.ext
  simp
set_option maxHeartbeats 1600000 in
set_option maxRecDepth 100000 in
theorem clo_brk {B : Nat} (a b : Int) (s : ByteArray) (w : World) (ha : 0 ≤ a ∧ a ≤ 5) (hb : 0 ≤ b ∧ b ≤ 5) (hc : w.cell? ⟨B, 0, none⟩ = some (.string s)) :
    Calls Tryz.prog 75 #[.agg #[.int .u8 a, .int .u8 b], .pointer (some ⟨B, 0, none⟩)] w (TupPost (.bool ([byteOf a, byteOf b] == s.toList)) w) := by
  have hx := Bx.new w 143 #[.int .u8 a, .int .u8 b]
  have hBl := World.block_lt_of_cell? _ _ hc
  have hB := (Below.refl w.heap.size w).alloc (Nat.le_refl _) (.cells #[.int .u8 a, .int .u8 b] 143)
  have hcB := (hB.cell (p := ⟨B, 0, none⟩) hBl).trans hc
  have HC := Lib.hid hc
  have HB := Lib.hid hB
  have HA := Lib.hid fun W => by
    have := brk_around a b ⟨#[]⟩ W ha hb (by show 0 ≤ _; omega)
    rwa [cat_one] at this
  obtain ⟨x, hx1⟩ : ∃ x, x = byteOf a := ⟨_, rfl⟩
  obtain ⟨y, hy1⟩ : ∃ x, x = byteOf b := ⟨_, rfl⟩
  rw [← hx1, ← hy1] at HA ⊢
  obtain ⟨c0, c1, cl⟩ := id hx.all2
  clear hx hB hx1 hy1 ha hb hc
  go_enter Tryz.func75, Tryz.ntmps75
  go_wp2_with fail
  go_region_with (go_at_call 76
                  refine (HA.out _).mono ?_
                  rintro e w1 ⟨rfl, hb1⟩
                  have hw1 : Below w.heap.size w w1 := by first | exact HB.out.drew.trans (hb1.mono HB.out.drew.size) | exact HB.out.trans (hb1.mono HB.out.size)
                  have hc1 : w1.cell? ⟨B, 0, none⟩ = some (.string s) := (hw1.cell (p := ⟨B, 0, none⟩) hBl).trans HC.out)
  all_goals
    go_wp2
    go_ret
    exact ⟨rfl, hw1⟩

/-- Which of the brackets a text is: 4 if it is none. -/
def whichB (s : ByteArray) : Nat := if s.data.toList = [40, 41] then 0 else if s.data.toList = [40, 93] then 1 else if s.data.toList = [91, 41] then 2 else if s.data.toList = [91, 93] then 3 else 4
theorem which_le (s : ByteArray) : whichB s ≤ 4 := by unfold whichB; (repeat' split) <;> omega
theorem which_brk (s : ByteArray) : brkB s = decide (whichB s < 4) := by
  unfold brkB whichB
  by_cases h1 : s.data.toList = [40, 41]
  · simp [h1]
  by_cases h2 : s.data.toList = [40, 93]
  · simp [h2]
  by_cases h3 : s.data.toList = [91, 41]
  · simp [h3]
  by_cases h4 : s.data.toList = [91, 93]
  · simp [h4]
  simp [h1, h2, h3, h4]
theorem brks_at (k : Nat) (hk : k < 4) : ∃ x, brks[k]? = some x ∧ (0 ≤ x.1 ∧ x.1 ≤ 5) ∧ (0 ≤ x.2 ∧ x.2 ≤ 5) := by
  obtain rfl | rfl | rfl | rfl : k = 0 ∨ k = 1 ∨ k = 2 ∨ k = 3 := by omega
  all_goals exact ⟨_, rfl, by decide, by decide⟩
theorem which_at {s : ByteArray} {k : Nat} {x : Int × Int} (hx : brks[k]? = some x) (hk : k ≤ whichB s) : ([byteOf x.1, byteOf x.2] == s.toList) = decide (k = whichB s) := by
  rw [ByteArray.toList_eq]
  have h4 : k < 4 := (List.getElem?_eq_some_iff.1 hx).1
  unfold whichB at hk ⊢
  obtain rfl | rfl | rfl | rfl : k = 0 ∨ k = 1 ∨ k = 2 ∨ k = 3 := by omega
  all_goals
    cases hx
    by_cases h1 : s.data.toList = [40, 41]
    · rw [h1] at hk ⊢
      first | rfl | (exfalso; revert hk; decide)
    by_cases h2 : s.data.toList = [40, 93]
    · rw [h2] at hk ⊢
      first | rfl | (exfalso; revert hk; decide)
    by_cases h3 : s.data.toList = [91, 41]
    · rw [h3] at hk ⊢
      first | rfl | (exfalso; revert hk; decide)
    by_cases h4 : s.data.toList = [91, 93]
    · rw [h4] at hk ⊢
      first | rfl | (exfalso; revert hk; decide)
    simp only [if_neg h1, if_neg h2, if_neg h3, if_neg h4]
    first
      | (exact beq_eq_false_iff_ne.2 fun e => h1 e.symm)
      | (exact beq_eq_false_iff_ne.2 fun e => h2 e.symm)
      | (exact beq_eq_false_iff_ne.2 fun e => h3 e.symm)
      | (exact beq_eq_false_iff_ne.2 fun e => h4 e.symm)
def whichI (s : ByteArray) : Int := if whichB s < 4 then (whichB s : Int) else -1
set_option maxHeartbeats 1600000 in
set_option maxRecDepth 100000 in
theorem idx_brk {base B : Nat} {v : Value} {bs : List Nat} (s : ByteArray) (w : World) (hc : w.cell? ⟨B, 0, none⟩ = some (.string s)) (ha : BrkE base w v brks bs) :
    Calls Tryz.prog 93 #[v, .func (.func 75) #[] #[.pointer (some ⟨B, 0, none⟩)]] w (SeenPost (.int .i64 (whichI s)) w) := by
  obtain ⟨A, ca, rfl⟩ := RowE.slice ha
  have hcf : ∀ args w, (callFunc 75 args).run Tryz.prog w = .ok (.enter 75 args) w := fun args w => entersB (fn := Tryz.f75) (by kernel_rfl) (by kernel_rfl) rfl args w
  have hBl := World.block_lt_of_cell? _ _ hc
  rw [show (brks.length) = 4 from rfl] at ha ⊢
  have HA := Lib.hid ha
  have HC := Lib.hid hc
  have HM := Lib.hid (fun (k : Nat) (x : Int × Int) (hx : brks[k]? = some x) (hk : k ≤ whichB s) => which_at (s := s) hx hk)
  have HI := Lib.hid (show whichI s = if whichB s < 4 then (whichB s : Int) else -1 from rfl)
  have hm4 := which_le s
  obtain ⟨r, hr⟩ : ∃ r, r = whichI s := ⟨_, rfl⟩
  rw [← hr] at HI ⊢
  obtain ⟨m, hm⟩ : ∃ m, m = whichB s := ⟨_, rfl⟩
  rw [← hm] at HM HI hm4
  clear ha hc hr hm
  go_enter Tryz.func93, Tryz.ntmps93
  go_wp2
  go_loopw [8] (fun i wr => ∃ k : Nat, k ≤ m ∧ i = .int .i64 k ∧ Below w.heap.size w wr) (fun i _ => 4 - (intOf i).toNat)
  case atStart => exact ⟨0, Nat.zero_le _, rfl, Below.refl _ _⟩
  case round =>
    obtain ⟨k, hk, rfl, hB⟩ := hrel
    have hs := hB.size
    by_cases hlt : k < 4
    · obtain ⟨x, hx, x1, x2⟩ := brks_at k hlt
      obtain ⟨g, rfl, hg, _⟩ := RowE.head HA.out hlt
      have hc1 := (hB.cell (p := ⟨g, k * 2, none⟩) hg).trans (BrkE.cell' HA.out hx).1
      have hc2 := (hB.cell (p := ⟨g, k * 2 + 1, none⟩) hg).trans (BrkE.cell' HA.out hx).2
      have hcB := (hB.cell (p := ⟨B, 0, none⟩) hBl).trans HC.out
      have ht := clo_brk x.1 x.2 s wr x1 x2 hcB
      rw [HM.out k x hx hk] at ht
      by_cases he : k = m
      · rw [decide_eq_true he] at ht
        have Ht := Lib.hid ht
        have hri := Lib.hid (show r = (k : Int) from by rw [HI.out, ← he, if_pos hlt])
        subst he
        clear hx x1 x2 hcB ht HI HM
        obtain ⟨y0, y1⟩ := x
        dsimp only at hc1 hc2 Ht
        go_wp2_with fail
        refine Ht.out.mono ?_
        rintro e w2 ⟨rfl, hb2⟩
        go_wp2
        go_ret
        exact ⟨by rw [hri.out]; rfl, hB.trans (hb2.mono hs)⟩
      · rw [decide_eq_false he] at ht
        have Ht := Lib.hid ht
        clear hx x1 x2 hcB ht
        obtain ⟨y0, y1⟩ := x
        dsimp only at hc1 hc2 Ht
        go_wp2_with fail
        refine Ht.out.mono ?_
        rintro e w2 ⟨rfl, hb2⟩
        go_wp2
        go_roundw
        case rel => exact ⟨k + 1, by omega, by go_num, hB.trans (hb2.mono hs)⟩
        case measure => simp [intOf]; omega
    · have e : k = 4 := by omega
      subst e
      have e2 : m = 4 := by omega
      have hri := Lib.hid (show r = -1 from by rw [HI.out, e2, if_neg (by omega)])
      clear e2 HI HM
      go_wp2
      go_ret
      exact ⟨by rw [hri.out]; rfl, hB⟩
theorem whichI_brk (s : ByteArray) : decide ((0 : Int) ≤ whichI s) = brkB s := by
  rw [which_brk, whichI]
  by_cases h : whichB s < 4
  · rw [if_pos h, decide_eq_true h]; simp
  · rw [if_neg h, decide_eq_false h]; rfl
set_option maxHeartbeats 1600000 in
set_option maxRecDepth 100000 in
theorem impl_isBracketText (s : ByteArray) (w : World) : Calls Tryz.prog 58 #[.string s] w (TupPost (.bool (brkB s)) w) := by
  have hcon : ∀ {base B : Nat} {v : Value} {bs : List Nat} (w : World) (hc : w.cell? ⟨B, 0, none⟩ = some (.string s)) (ha : BrkE base w v brks bs),
      Calls Tryz.prog 73 #[v, .func (.func 75) #[] #[.pointer (some ⟨B, 0, none⟩)]] w (TupPost (.bool (brkB s)) w) := by
    intro base B v bs w hc ha
    have H := Lib.hid (idx_brk s w hc ha)
    rw [← whichI_brk]
    generalize whichI s = r at *
    clear hc ha
    go_enter Tryz.func73, Tryz.ntmps73
    go_wp2_with fail
    refine H.out.mono ?_
    rintro e w2 ⟨rfl, hb2⟩
    go_wp2
    go_ret
    exact ⟨rfl, hb2⟩
  have Hcon : Hid (∀ (base B : Nat) (v : Value) (bs : List Nat) (w : World) (hc : w.cell? ⟨B, 0, none⟩ = some (.string s)) (ha : BrkE base w v brks bs), Calls Tryz.prog 73 #[v, .func (.func 75) #[] #[.pointer (some ⟨B, 0, none⟩)]] w (TupPost (.bool (brkB s)) w)) := fun _ _ _ _ w hc ha => hcon w hc ha
  have hx := Bx.new w 9 #[.string s]
  have hB := (Below.refl w.heap.size w).alloc (Nat.le_refl _) (.cells #[.string s] 9)
  have HX := Lib.hid (And.intro hx hB)
  generalize brkB s = r at *
  clear hcon hx hB
  go_enter Tryz.func58, Tryz.ntmps58
  go_wp2_with fail
  refine (impl_brackets _).mono ?_
  rintro e w1 ⟨v, bs, rfl, hE, hb1⟩
  have hc1 := (HX.out.1.later hb1).cell 0 _ rfl
  have HQ := Lib.hid (And.intro (Hcon.out _ _ _ _ _ hc1 hE) (HX.out.2.trans (hb1.mono HX.out.2.size)))
  clear hE hc1 hb1
  go_wp2_with fail
  refine HQ.out.1.mono ?_
  rintro e w2 ⟨rfl, hb2⟩
  go_wp2
  go_ret
  exact ⟨rfl, HQ.out.2.trans (hb2.mono HQ.out.2.size)⟩

theorem impl_isNoText (s : ByteArray) (w : World) : Calls Tryz.prog 57 #[.string s] w (TupPost (.bool (noB s)) w) := by
  rcases no_cases s with rfl | ⟨n1, n2, n3⟩
  · go_enter Tryz.func57, Tryz.ntmps57
    go_wp2
    go_ret
    exact ⟨rfl, Below.refl _ _⟩
  · rw [n2]
    have n4 := ba_beq n1
    clear n2
    go_enter Tryz.func57, Tryz.ntmps57
    go_wp2
    go_ret
    exact ⟨rfl, Below.refl _ _⟩
theorem impl_isMatchedText (s : ByteArray) (w : World) (hs : s.size ≤ 1048576) : Calls Tryz.prog 56 #[.string s] w (TupPost (.bool (wmB s)) w) := by
  have H : Hid (∀ w, ∃ c : Int, Calls Tryz.prog 72 #[.string s] w (TupPost (.tuple #[.bool (wmB s), .int .i64 c]) w)) := by
    intro w
    cases h : wB s with
    | true =>
      refine ⟨0, ?_⟩
      have := impl_IsMatched_yes s w ((wB_iff s).1 h)
      rw [← mB_size] at this
      rw [wmB, h, Bool.true_and]
      exact this
    | false =>
      refine ⟨1, ?_⟩
      rw [wmB, h, Bool.false_and]
      exact impl_IsMatched_no s w hs (wB_no h)
  generalize wmB s = r at *
  obtain ⟨c, hC⟩ := H.out w
  have HC := Lib.hid hC
  clear hC H
  go_enter Tryz.func56, Tryz.ntmps56
  go_wp2_with fail
  refine HC.out.mono ?_
  rintro e w1 ⟨rfl, hb⟩
  go_wp2
  go_ret
  exact ⟨rfl, hb⟩
theorem isBelow_dec (n m : Int) (w : World) : Calls Tryz.prog 43 #[.int .i64 n, .int .i64 m] w fun e w' => e = .returned (.bool (decide (0 ≤ n ∧ n < m))) ∧ w = w' := by
  by_cases h1 : 0 ≤ n
  · by_cases h2 : n < m
    · rw [decide_eq_true ⟨h1, h2⟩]
      go_enter Tryz.func43, Tryz.ntmps43
      go_wp2
      go_ret
      exact ⟨by simp <;> omega, rfl⟩
    · rw [decide_eq_false (fun h => h2 h.2)]
      go_enter Tryz.func43, Tryz.ntmps43
      go_wp2
      go_ret
      exact ⟨by simp <;> omega, rfl⟩
  · rw [decide_eq_false (fun h => h1 h.1)]
    have h3 : n < 0 := by omega
    clear h1
    go_enter Tryz.func43, Tryz.ntmps43
    go_wp2
    go_ret
    exact ⟨rfl, rfl⟩

/-- The words of the kinds. -/
def kindW (k : Int) : ByteArray := if k = 1 then ⟨#[112, 117, 116]⟩ else if k = 2 then ⟨#[99, 117, 116]⟩ else if k = 3 then ⟨#[111, 112, 101, 110]⟩ else if k = 4 then ⟨#[119, 114, 97, 112]⟩ else if k = 5 then ⟨#[110, 97, 109, 101]⟩ else ⟨#[]⟩
def kindF (k : Int) : Value := if k = 1 then .func (.func 56) #[] #[] else if k = 2 ∨ k = 3 then .func (.func 57) #[] #[] else if k = 4 ∨ k = 5 then .func (.func 58) #[] #[] else .nilFunc
set_option maxHeartbeats 3200000 in
set_option maxRecDepth 100000 in
theorem impl_formOf (k : Int) (w : World) : Calls Tryz.prog 40 #[.int .i64 k] w (TupPost (.tuple #[.agg #[.string (kindW k), .bool (decide (k = 4)), .bool (decide (k = 1 ∨ k = 4 ∨ k = 5)), kindF k], .bool (decide (1 ≤ k ∧ k ≤ 5))]) w) := by
  by_cases h : 1 ≤ k ∧ k ≤ 5
  case neg =>
    have e1 : (k == 1) = false := by simp; omega
    have e2 : (k == 2) = false := by simp; omega
    have e3 : (k == 3) = false := by simp; omega
    have e4 : (k == 4) = false := by simp; omega
    have e5 : (k == 5) = false := by simp; omega
    have n1 : ¬ k = 1 := by omega
    have n2 : ¬ k = 2 := by omega
    have n3 : ¬ k = 3 := by omega
    have n4 : ¬ k = 4 := by omega
    have n5 : ¬ k = 5 := by omega
    have w1 : kindW k = ⟨#[]⟩ := by unfold kindW; simp [n1, n2, n3, n4, n5]
    have w2 : kindF k = .nilFunc := by unfold kindF; simp [n1, n2, n3, n4, n5]
    have w3 : decide (k = 1 ∨ k = 4 ∨ k = 5) = false := decide_eq_false (by omega)
    rw [w1, w2, w3, decide_eq_false n4, decide_eq_false h]
    clear w1 w2 w3 h
    go_enter Tryz.func40, Tryz.ntmps40
    go_wp2
    exact bodyPost_ret (v := .tuple #[.agg #[.string ⟨#[]⟩, .bool false, .bool false, .nilFunc], .bool false]) (by simp [results, Tryz.results40, go_sem]) rfl ⟨rfl, (Below.refl _ _).alloc (Nat.le_refl _) _⟩
  obtain rfl | rfl | rfl | rfl | rfl : k = 1 ∨ k = 2 ∨ k = 3 ∨ k = 4 ∨ k = 5 := by omega
  · clear h
    go_enter Tryz.func40, Tryz.ntmps40
    go_wp2
    exact bodyPost_ret (v := .tuple #[.agg #[.string ⟨#[112, 117, 116]⟩, .bool false, .bool true, .func (.func 56) #[] #[]], .bool true]) (by simp [results, Tryz.results40, go_sem]) rfl ⟨rfl, (Below.refl _ _).alloc (Nat.le_refl _) _⟩
  · clear h
    go_enter Tryz.func40, Tryz.ntmps40
    go_wp2
    exact bodyPost_ret (v := .tuple #[.agg #[.string ⟨#[99, 117, 116]⟩, .bool false, .bool false, .func (.func 57) #[] #[]], .bool true]) (by simp [results, Tryz.results40, go_sem]) rfl ⟨rfl, (Below.refl _ _).alloc (Nat.le_refl _) _⟩
  · clear h
    go_enter Tryz.func40, Tryz.ntmps40
    go_wp2
    exact bodyPost_ret (v := .tuple #[.agg #[.string ⟨#[111, 112, 101, 110]⟩, .bool false, .bool false, .func (.func 57) #[] #[]], .bool true]) (by simp [results, Tryz.results40, go_sem]) rfl ⟨rfl, (Below.refl _ _).alloc (Nat.le_refl _) _⟩
  · clear h
    go_enter Tryz.func40, Tryz.ntmps40
    go_wp2
    exact bodyPost_ret (v := .tuple #[.agg #[.string ⟨#[119, 114, 97, 112]⟩, .bool true, .bool true, .func (.func 58) #[] #[]], .bool true]) (by simp [results, Tryz.results40, go_sem]) rfl ⟨rfl, (Below.refl _ _).alloc (Nat.le_refl _) _⟩
  · clear h
    go_enter Tryz.func40, Tryz.ntmps40
    go_wp2
    exact bodyPost_ret (v := .tuple #[.agg #[.string ⟨#[110, 97, 109, 101]⟩, .bool false, .bool true, .func (.func 58) #[] #[]], .bool true]) (by simp [results, Tryz.results40, go_sem]) rfl ⟨rfl, (Below.refl _ _).alloc (Nat.le_refl _) _⟩
-- ValidTreeEdit, whatever the edit.
set_option maxHeartbeats 6400000 in
set_option maxRecDepth 100000 in
theorem impl_ValidTreeEdit (k a t : Int) (s : ByteArray) (w : World) (hs : s.size ≤ 1048576) : Calls Tryz.prog 25 #[.agg #[.int .i64 k, .int .i64 a, .int .i64 t, .string s]] w (TupPost (.bool (edB k a t s)) w) := by
  have hx := Bx.new w 25 #[.int .i64 k, .int .i64 a, .int .i64 t, .string s]
  have hB := (Below.refl w.heap.size w).alloc (Nat.le_refl _) (.cells #[.int .i64 k, .int .i64 a, .int .i64 t, .string s] 25)
  have HX := Lib.hid (And.intro hx hB)
  have Hf := Lib.hid fun W => impl_formOf k W
  have HR := Lib.hid (show edB k a t s = (decide (1 ≤ k ∧ k ≤ 5) && (decide (0 ≤ a ∧ a ≤ 60) && (decide (0 ≤ t ∧ t ≤ 60) && ((decide (k = 4) || decide (t = 0)) && txtB k s)))) from rfl)
  have Ha := Lib.hid fun W => isBelow_dec a 61 W
  have Ht := Lib.hid fun W => isBelow_dec t 61 W
  rw [show decide (0 ≤ a ∧ a < 61) = decide (0 ≤ a ∧ a ≤ 60) from decide_eq_decide.2 (by omega)] at Ha
  rw [show decide (0 ≤ t ∧ t < 61) = decide (0 ≤ t ∧ t ≤ 60) from decide_eq_decide.2 (by omega)] at Ht
  have Hm := Lib.hid fun W => impl_isMatchedText s W hs
  have Hn := Lib.hid fun W => impl_isNoText s W
  have Hb := Lib.hid fun W => impl_isBracketText s W
  obtain ⟨R, hR⟩ : ∃ R, R = edB k a t s := ⟨_, rfl⟩
  rw [← hR] at HR ⊢
  obtain ⟨xa, hxa⟩ : ∃ x, x = decide (0 ≤ a ∧ a ≤ 60) := ⟨_, rfl⟩
  obtain ⟨xt, hxt⟩ : ∃ x, x = decide (0 ≤ t ∧ t ≤ 60) := ⟨_, rfl⟩
  rw [← hxa] at Ha HR
  rw [← hxt] at Ht HR
  clear hx hB hR hxa hxt
  by_cases hk : 1 ≤ k ∧ k ≤ 5
  case neg =>
    rw [decide_eq_false hk] at Hf HR
    have e := HR.out
    rw [Bool.false_and] at e
    subst e
    have w1 : kindW k = ⟨#[]⟩ := by unfold kindW; simp [show ¬ k = 1 by omega, show ¬ k = 2 by omega, show ¬ k = 3 by omega, show ¬ k = 4 by omega, show ¬ k = 5 by omega]
    have w2 : kindF k = .nilFunc := by unfold kindF; simp [show ¬ k = 1 by omega, show ¬ k = 2 by omega, show ¬ k = 3 by omega, show ¬ k = 4 by omega, show ¬ k = 5 by omega]
    have w3 : decide (k = 1 ∨ k = 4 ∨ k = 5) = false := decide_eq_false (by omega)
    have w4 : decide (k = 4) = false := decide_eq_false (by omega)
    rw [w1, w2, w3, w4] at Hf
    clear w1 w2 w3 w4 hk HR Ha Ht Hm Hn Hb
    go_enter Tryz.func25, Tryz.ntmps25
    go_wp2_with fail
    refine (Hf.out _).mono ?_
    rintro e w1 ⟨rfl, hb1⟩
    have x1 := HX.out.1.later hb1
    have hB1 := HX.out.2.trans (hb1.mono HX.out.2.size)
    have x2 := x1.alloc (.cells #[.string ⟨#[]⟩, .bool false, .bool false, .nilFunc] 78)
    obtain ⟨c0, c1, c2, c3, cl⟩ := id x2.all4
    have f1 := Bx.new w1 78 #[.string ⟨#[]⟩, .bool false, .bool false, .nilFunc]
    obtain ⟨d0, d1, d2, d3, dl⟩ := id f1.all4
    have hB2 := Lib.hid (And.intro (hB1.alloc hB1.size (.cells #[.string ⟨#[]⟩, .bool false, .bool false, .nilFunc] 78)) (And.intro x2 f1))
    clear x1 hB1 x2 f1 hb1
    go_wp2
    go_ret
    exact ⟨rfl, hB2.out.1⟩
  rw [decide_eq_true hk] at HR
  rw [Bool.true_and] at HR
  obtain rfl | rfl | rfl | rfl | rfl : k = 1 ∨ k = 2 ∨ k = 3 ∨ k = 4 ∨ k = 5 := by omega
  · have Hg : Hid (∀ W, Calls Tryz.prog 40 #[.int .i64 1] W (TupPost (.tuple #[.agg #[.string ⟨#[112, 117, 116]⟩, .bool false, .bool true, .func (.func 56) #[] #[]], .bool true]) W)) := Hf.out
    have e : R = (xa && (xt && (decide (t = 0) && wmB s))) := by rw [HR.out]; rfl
    clear hk HR Hf Hn Hb
    obtain ⟨q, hq⟩ : ∃ q, q = wmB s := ⟨_, rfl⟩
    rw [← hq] at Hm e
    clear hq
    cases xa with
    | false =>
      obtain rfl : R = false := e
      go_enter Tryz.func25, Tryz.ntmps25
      go_wp2_with fail
      refine (Hg.out _).mono ?_
      rintro e w1 ⟨rfl, hb1⟩
      have x1 := HX.out.1.later hb1
      have hB1 := HX.out.2.trans (hb1.mono HX.out.2.size)
      have x2 := x1.alloc (.cells #[.string ⟨#[112, 117, 116]⟩, .bool false, .bool true, .func (.func 56) #[] #[]] 78)
      obtain ⟨c0, c1, c2, c3, cl⟩ := id x2.all4
      have f1 := Bx.new w1 78 #[.string ⟨#[112, 117, 116]⟩, .bool false, .bool true, .func (.func 56) #[] #[]]
      obtain ⟨d0, d1, d2, d3, dl⟩ := id f1.all4
      have hB2 := Lib.hid (And.intro (hB1.alloc hB1.size (.cells #[.string ⟨#[112, 117, 116]⟩, .bool false, .bool true, .func (.func 56) #[] #[]] 78)) (And.intro x2 f1))
      clear x1 hB1 x2 f1 hb1
      go_wp2_with fail
      refine (Ha.out _).mono ?_
      rintro e w' ⟨rfl, rfl⟩
      go_wp2
      go_ret
      exact ⟨rfl, hB2.out.1⟩
    | true =>
      cases xt with
      | false =>
        obtain rfl : R = false := e
        go_enter Tryz.func25, Tryz.ntmps25
        go_wp2_with fail
        refine (Hg.out _).mono ?_
        rintro e w1 ⟨rfl, hb1⟩
        have x1 := HX.out.1.later hb1
        have hB1 := HX.out.2.trans (hb1.mono HX.out.2.size)
        have x2 := x1.alloc (.cells #[.string ⟨#[112, 117, 116]⟩, .bool false, .bool true, .func (.func 56) #[] #[]] 78)
        obtain ⟨c0, c1, c2, c3, cl⟩ := id x2.all4
        have f1 := Bx.new w1 78 #[.string ⟨#[112, 117, 116]⟩, .bool false, .bool true, .func (.func 56) #[] #[]]
        obtain ⟨d0, d1, d2, d3, dl⟩ := id f1.all4
        have hB2 := Lib.hid (And.intro (hB1.alloc hB1.size (.cells #[.string ⟨#[112, 117, 116]⟩, .bool false, .bool true, .func (.func 56) #[] #[]] 78)) (And.intro x2 f1))
        clear x1 hB1 x2 f1 hb1
        go_wp2_with fail
        refine (Ha.out _).mono ?_
        rintro e w' ⟨rfl, rfl⟩
        go_wp2_with fail
        refine (Ht.out _).mono ?_
        rintro e w' ⟨rfl, rfl⟩
        go_wp2
        go_ret
        exact ⟨rfl, hB2.out.1⟩
      | true =>
        by_cases t0 : t = 0
        · subst t0
          obtain rfl : R = q := e
          go_enter Tryz.func25, Tryz.ntmps25
          go_wp2_with fail
          refine (Hg.out _).mono ?_
          rintro e w1 ⟨rfl, hb1⟩
          have x1 := HX.out.1.later hb1
          have hB1 := HX.out.2.trans (hb1.mono HX.out.2.size)
          have x2 := x1.alloc (.cells #[.string ⟨#[112, 117, 116]⟩, .bool false, .bool true, .func (.func 56) #[] #[]] 78)
          obtain ⟨c0, c1, c2, c3, cl⟩ := id x2.all4
          have f1 := Bx.new w1 78 #[.string ⟨#[112, 117, 116]⟩, .bool false, .bool true, .func (.func 56) #[] #[]]
          obtain ⟨d0, d1, d2, d3, dl⟩ := id f1.all4
          have hB2 := Lib.hid (And.intro (hB1.alloc hB1.size (.cells #[.string ⟨#[112, 117, 116]⟩, .bool false, .bool true, .func (.func 56) #[] #[]] 78)) (And.intro x2 f1))
          clear x1 hB1 x2 f1 hb1
          go_wp2_with fail
          refine (Ha.out _).mono ?_
          rintro e w' ⟨rfl, rfl⟩
          go_wp2_with fail
          refine (Ht.out _).mono ?_
          rintro e w' ⟨rfl, rfl⟩
          go_wp2_with fail
          refine (Hm.out _).mono ?_
          rintro e w2 ⟨rfl, hb2⟩
          go_wp2
          go_ret
          exact ⟨rfl, hB2.out.1.trans (hb2.mono hB2.out.1.size)⟩
        · have e5 : (t == 0) = false := by simpa using t0
          rw [decide_eq_false t0] at e
          obtain rfl : R = false := e
          go_enter Tryz.func25, Tryz.ntmps25
          go_wp2_with fail
          refine (Hg.out _).mono ?_
          rintro e w1 ⟨rfl, hb1⟩
          have x1 := HX.out.1.later hb1
          have hB1 := HX.out.2.trans (hb1.mono HX.out.2.size)
          have x2 := x1.alloc (.cells #[.string ⟨#[112, 117, 116]⟩, .bool false, .bool true, .func (.func 56) #[] #[]] 78)
          obtain ⟨c0, c1, c2, c3, cl⟩ := id x2.all4
          have f1 := Bx.new w1 78 #[.string ⟨#[112, 117, 116]⟩, .bool false, .bool true, .func (.func 56) #[] #[]]
          obtain ⟨d0, d1, d2, d3, dl⟩ := id f1.all4
          have hB2 := Lib.hid (And.intro (hB1.alloc hB1.size (.cells #[.string ⟨#[112, 117, 116]⟩, .bool false, .bool true, .func (.func 56) #[] #[]] 78)) (And.intro x2 f1))
          clear x1 hB1 x2 f1 hb1
          go_wp2_with fail
          refine (Ha.out _).mono ?_
          rintro e w' ⟨rfl, rfl⟩
          go_wp2_with fail
          refine (Ht.out _).mono ?_
          rintro e w' ⟨rfl, rfl⟩
          go_wp2
          go_ret
          exact ⟨rfl, hB2.out.1⟩
  · have Hg : Hid (∀ W, Calls Tryz.prog 40 #[.int .i64 2] W (TupPost (.tuple #[.agg #[.string ⟨#[99, 117, 116]⟩, .bool false, .bool false, .func (.func 57) #[] #[]], .bool true]) W)) := Hf.out
    have e : R = (xa && (xt && (decide (t = 0) && noB s))) := by rw [HR.out]; rfl
    clear hk HR Hf Hm Hb
    obtain ⟨q, hq⟩ : ∃ q, q = noB s := ⟨_, rfl⟩
    rw [← hq] at Hn e
    clear hq
    cases xa with
    | false =>
      obtain rfl : R = false := e
      go_enter Tryz.func25, Tryz.ntmps25
      go_wp2_with fail
      refine (Hg.out _).mono ?_
      rintro e w1 ⟨rfl, hb1⟩
      have x1 := HX.out.1.later hb1
      have hB1 := HX.out.2.trans (hb1.mono HX.out.2.size)
      have x2 := x1.alloc (.cells #[.string ⟨#[99, 117, 116]⟩, .bool false, .bool false, .func (.func 57) #[] #[]] 78)
      obtain ⟨c0, c1, c2, c3, cl⟩ := id x2.all4
      have f1 := Bx.new w1 78 #[.string ⟨#[99, 117, 116]⟩, .bool false, .bool false, .func (.func 57) #[] #[]]
      obtain ⟨d0, d1, d2, d3, dl⟩ := id f1.all4
      have hB2 := Lib.hid (And.intro (hB1.alloc hB1.size (.cells #[.string ⟨#[99, 117, 116]⟩, .bool false, .bool false, .func (.func 57) #[] #[]] 78)) (And.intro x2 f1))
      clear x1 hB1 x2 f1 hb1
      go_wp2_with fail
      refine (Ha.out _).mono ?_
      rintro e w' ⟨rfl, rfl⟩
      go_wp2
      go_ret
      exact ⟨rfl, hB2.out.1⟩
    | true =>
      cases xt with
      | false =>
        obtain rfl : R = false := e
        go_enter Tryz.func25, Tryz.ntmps25
        go_wp2_with fail
        refine (Hg.out _).mono ?_
        rintro e w1 ⟨rfl, hb1⟩
        have x1 := HX.out.1.later hb1
        have hB1 := HX.out.2.trans (hb1.mono HX.out.2.size)
        have x2 := x1.alloc (.cells #[.string ⟨#[99, 117, 116]⟩, .bool false, .bool false, .func (.func 57) #[] #[]] 78)
        obtain ⟨c0, c1, c2, c3, cl⟩ := id x2.all4
        have f1 := Bx.new w1 78 #[.string ⟨#[99, 117, 116]⟩, .bool false, .bool false, .func (.func 57) #[] #[]]
        obtain ⟨d0, d1, d2, d3, dl⟩ := id f1.all4
        have hB2 := Lib.hid (And.intro (hB1.alloc hB1.size (.cells #[.string ⟨#[99, 117, 116]⟩, .bool false, .bool false, .func (.func 57) #[] #[]] 78)) (And.intro x2 f1))
        clear x1 hB1 x2 f1 hb1
        go_wp2_with fail
        refine (Ha.out _).mono ?_
        rintro e w' ⟨rfl, rfl⟩
        go_wp2_with fail
        refine (Ht.out _).mono ?_
        rintro e w' ⟨rfl, rfl⟩
        go_wp2
        go_ret
        exact ⟨rfl, hB2.out.1⟩
      | true =>
        by_cases t0 : t = 0
        · subst t0
          obtain rfl : R = q := e
          go_enter Tryz.func25, Tryz.ntmps25
          go_wp2_with fail
          refine (Hg.out _).mono ?_
          rintro e w1 ⟨rfl, hb1⟩
          have x1 := HX.out.1.later hb1
          have hB1 := HX.out.2.trans (hb1.mono HX.out.2.size)
          have x2 := x1.alloc (.cells #[.string ⟨#[99, 117, 116]⟩, .bool false, .bool false, .func (.func 57) #[] #[]] 78)
          obtain ⟨c0, c1, c2, c3, cl⟩ := id x2.all4
          have f1 := Bx.new w1 78 #[.string ⟨#[99, 117, 116]⟩, .bool false, .bool false, .func (.func 57) #[] #[]]
          obtain ⟨d0, d1, d2, d3, dl⟩ := id f1.all4
          have hB2 := Lib.hid (And.intro (hB1.alloc hB1.size (.cells #[.string ⟨#[99, 117, 116]⟩, .bool false, .bool false, .func (.func 57) #[] #[]] 78)) (And.intro x2 f1))
          clear x1 hB1 x2 f1 hb1
          go_wp2_with fail
          refine (Ha.out _).mono ?_
          rintro e w' ⟨rfl, rfl⟩
          go_wp2_with fail
          refine (Ht.out _).mono ?_
          rintro e w' ⟨rfl, rfl⟩
          go_wp2_with fail
          refine (Hn.out _).mono ?_
          rintro e w2 ⟨rfl, hb2⟩
          go_wp2
          go_ret
          exact ⟨rfl, hB2.out.1.trans (hb2.mono hB2.out.1.size)⟩
        · have e5 : (t == 0) = false := by simpa using t0
          rw [decide_eq_false t0] at e
          obtain rfl : R = false := e
          go_enter Tryz.func25, Tryz.ntmps25
          go_wp2_with fail
          refine (Hg.out _).mono ?_
          rintro e w1 ⟨rfl, hb1⟩
          have x1 := HX.out.1.later hb1
          have hB1 := HX.out.2.trans (hb1.mono HX.out.2.size)
          have x2 := x1.alloc (.cells #[.string ⟨#[99, 117, 116]⟩, .bool false, .bool false, .func (.func 57) #[] #[]] 78)
          obtain ⟨c0, c1, c2, c3, cl⟩ := id x2.all4
          have f1 := Bx.new w1 78 #[.string ⟨#[99, 117, 116]⟩, .bool false, .bool false, .func (.func 57) #[] #[]]
          obtain ⟨d0, d1, d2, d3, dl⟩ := id f1.all4
          have hB2 := Lib.hid (And.intro (hB1.alloc hB1.size (.cells #[.string ⟨#[99, 117, 116]⟩, .bool false, .bool false, .func (.func 57) #[] #[]] 78)) (And.intro x2 f1))
          clear x1 hB1 x2 f1 hb1
          go_wp2_with fail
          refine (Ha.out _).mono ?_
          rintro e w' ⟨rfl, rfl⟩
          go_wp2_with fail
          refine (Ht.out _).mono ?_
          rintro e w' ⟨rfl, rfl⟩
          go_wp2
          go_ret
          exact ⟨rfl, hB2.out.1⟩
  · have Hg : Hid (∀ W, Calls Tryz.prog 40 #[.int .i64 3] W (TupPost (.tuple #[.agg #[.string ⟨#[111, 112, 101, 110]⟩, .bool false, .bool false, .func (.func 57) #[] #[]], .bool true]) W)) := Hf.out
    have e : R = (xa && (xt && (decide (t = 0) && noB s))) := by rw [HR.out]; rfl
    clear hk HR Hf Hm Hb
    obtain ⟨q, hq⟩ : ∃ q, q = noB s := ⟨_, rfl⟩
    rw [← hq] at Hn e
    clear hq
    cases xa with
    | false =>
      obtain rfl : R = false := e
      go_enter Tryz.func25, Tryz.ntmps25
      go_wp2_with fail
      refine (Hg.out _).mono ?_
      rintro e w1 ⟨rfl, hb1⟩
      have x1 := HX.out.1.later hb1
      have hB1 := HX.out.2.trans (hb1.mono HX.out.2.size)
      have x2 := x1.alloc (.cells #[.string ⟨#[111, 112, 101, 110]⟩, .bool false, .bool false, .func (.func 57) #[] #[]] 78)
      obtain ⟨c0, c1, c2, c3, cl⟩ := id x2.all4
      have f1 := Bx.new w1 78 #[.string ⟨#[111, 112, 101, 110]⟩, .bool false, .bool false, .func (.func 57) #[] #[]]
      obtain ⟨d0, d1, d2, d3, dl⟩ := id f1.all4
      have hB2 := Lib.hid (And.intro (hB1.alloc hB1.size (.cells #[.string ⟨#[111, 112, 101, 110]⟩, .bool false, .bool false, .func (.func 57) #[] #[]] 78)) (And.intro x2 f1))
      clear x1 hB1 x2 f1 hb1
      go_wp2_with fail
      refine (Ha.out _).mono ?_
      rintro e w' ⟨rfl, rfl⟩
      go_wp2
      go_ret
      exact ⟨rfl, hB2.out.1⟩
    | true =>
      cases xt with
      | false =>
        obtain rfl : R = false := e
        go_enter Tryz.func25, Tryz.ntmps25
        go_wp2_with fail
        refine (Hg.out _).mono ?_
        rintro e w1 ⟨rfl, hb1⟩
        have x1 := HX.out.1.later hb1
        have hB1 := HX.out.2.trans (hb1.mono HX.out.2.size)
        have x2 := x1.alloc (.cells #[.string ⟨#[111, 112, 101, 110]⟩, .bool false, .bool false, .func (.func 57) #[] #[]] 78)
        obtain ⟨c0, c1, c2, c3, cl⟩ := id x2.all4
        have f1 := Bx.new w1 78 #[.string ⟨#[111, 112, 101, 110]⟩, .bool false, .bool false, .func (.func 57) #[] #[]]
        obtain ⟨d0, d1, d2, d3, dl⟩ := id f1.all4
        have hB2 := Lib.hid (And.intro (hB1.alloc hB1.size (.cells #[.string ⟨#[111, 112, 101, 110]⟩, .bool false, .bool false, .func (.func 57) #[] #[]] 78)) (And.intro x2 f1))
        clear x1 hB1 x2 f1 hb1
        go_wp2_with fail
        refine (Ha.out _).mono ?_
        rintro e w' ⟨rfl, rfl⟩
        go_wp2_with fail
        refine (Ht.out _).mono ?_
        rintro e w' ⟨rfl, rfl⟩
        go_wp2
        go_ret
        exact ⟨rfl, hB2.out.1⟩
      | true =>
        by_cases t0 : t = 0
        · subst t0
          obtain rfl : R = q := e
          go_enter Tryz.func25, Tryz.ntmps25
          go_wp2_with fail
          refine (Hg.out _).mono ?_
          rintro e w1 ⟨rfl, hb1⟩
          have x1 := HX.out.1.later hb1
          have hB1 := HX.out.2.trans (hb1.mono HX.out.2.size)
          have x2 := x1.alloc (.cells #[.string ⟨#[111, 112, 101, 110]⟩, .bool false, .bool false, .func (.func 57) #[] #[]] 78)
          obtain ⟨c0, c1, c2, c3, cl⟩ := id x2.all4
          have f1 := Bx.new w1 78 #[.string ⟨#[111, 112, 101, 110]⟩, .bool false, .bool false, .func (.func 57) #[] #[]]
          obtain ⟨d0, d1, d2, d3, dl⟩ := id f1.all4
          have hB2 := Lib.hid (And.intro (hB1.alloc hB1.size (.cells #[.string ⟨#[111, 112, 101, 110]⟩, .bool false, .bool false, .func (.func 57) #[] #[]] 78)) (And.intro x2 f1))
          clear x1 hB1 x2 f1 hb1
          go_wp2_with fail
          refine (Ha.out _).mono ?_
          rintro e w' ⟨rfl, rfl⟩
          go_wp2_with fail
          refine (Ht.out _).mono ?_
          rintro e w' ⟨rfl, rfl⟩
          go_wp2_with fail
          refine (Hn.out _).mono ?_
          rintro e w2 ⟨rfl, hb2⟩
          go_wp2
          go_ret
          exact ⟨rfl, hB2.out.1.trans (hb2.mono hB2.out.1.size)⟩
        · have e5 : (t == 0) = false := by simpa using t0
          rw [decide_eq_false t0] at e
          obtain rfl : R = false := e
          go_enter Tryz.func25, Tryz.ntmps25
          go_wp2_with fail
          refine (Hg.out _).mono ?_
          rintro e w1 ⟨rfl, hb1⟩
          have x1 := HX.out.1.later hb1
          have hB1 := HX.out.2.trans (hb1.mono HX.out.2.size)
          have x2 := x1.alloc (.cells #[.string ⟨#[111, 112, 101, 110]⟩, .bool false, .bool false, .func (.func 57) #[] #[]] 78)
          obtain ⟨c0, c1, c2, c3, cl⟩ := id x2.all4
          have f1 := Bx.new w1 78 #[.string ⟨#[111, 112, 101, 110]⟩, .bool false, .bool false, .func (.func 57) #[] #[]]
          obtain ⟨d0, d1, d2, d3, dl⟩ := id f1.all4
          have hB2 := Lib.hid (And.intro (hB1.alloc hB1.size (.cells #[.string ⟨#[111, 112, 101, 110]⟩, .bool false, .bool false, .func (.func 57) #[] #[]] 78)) (And.intro x2 f1))
          clear x1 hB1 x2 f1 hb1
          go_wp2_with fail
          refine (Ha.out _).mono ?_
          rintro e w' ⟨rfl, rfl⟩
          go_wp2_with fail
          refine (Ht.out _).mono ?_
          rintro e w' ⟨rfl, rfl⟩
          go_wp2
          go_ret
          exact ⟨rfl, hB2.out.1⟩
  · have Hg : Hid (∀ W, Calls Tryz.prog 40 #[.int .i64 4] W (TupPost (.tuple #[.agg #[.string ⟨#[119, 114, 97, 112]⟩, .bool true, .bool true, .func (.func 58) #[] #[]], .bool true]) W)) := Hf.out
    have e : R = (xa && (xt && brkB s)) := by rw [HR.out]; rfl
    clear hk HR Hf Hm Hn
    obtain ⟨q, hq⟩ : ∃ q, q = brkB s := ⟨_, rfl⟩
    rw [← hq] at Hb e
    clear hq
    cases xa with
    | false =>
      obtain rfl : R = false := e
      go_enter Tryz.func25, Tryz.ntmps25
      go_wp2_with fail
      refine (Hg.out _).mono ?_
      rintro e w1 ⟨rfl, hb1⟩
      have x1 := HX.out.1.later hb1
      have hB1 := HX.out.2.trans (hb1.mono HX.out.2.size)
      have x2 := x1.alloc (.cells #[.string ⟨#[119, 114, 97, 112]⟩, .bool true, .bool true, .func (.func 58) #[] #[]] 78)
      obtain ⟨c0, c1, c2, c3, cl⟩ := id x2.all4
      have f1 := Bx.new w1 78 #[.string ⟨#[119, 114, 97, 112]⟩, .bool true, .bool true, .func (.func 58) #[] #[]]
      obtain ⟨d0, d1, d2, d3, dl⟩ := id f1.all4
      have hB2 := Lib.hid (And.intro (hB1.alloc hB1.size (.cells #[.string ⟨#[119, 114, 97, 112]⟩, .bool true, .bool true, .func (.func 58) #[] #[]] 78)) (And.intro x2 f1))
      clear x1 hB1 x2 f1 hb1
      go_wp2_with fail
      refine (Ha.out _).mono ?_
      rintro e w' ⟨rfl, rfl⟩
      go_wp2
      go_ret
      exact ⟨rfl, hB2.out.1⟩
    | true =>
      cases xt with
      | false =>
        obtain rfl : R = false := e
        go_enter Tryz.func25, Tryz.ntmps25
        go_wp2_with fail
        refine (Hg.out _).mono ?_
        rintro e w1 ⟨rfl, hb1⟩
        have x1 := HX.out.1.later hb1
        have hB1 := HX.out.2.trans (hb1.mono HX.out.2.size)
        have x2 := x1.alloc (.cells #[.string ⟨#[119, 114, 97, 112]⟩, .bool true, .bool true, .func (.func 58) #[] #[]] 78)
        obtain ⟨c0, c1, c2, c3, cl⟩ := id x2.all4
        have f1 := Bx.new w1 78 #[.string ⟨#[119, 114, 97, 112]⟩, .bool true, .bool true, .func (.func 58) #[] #[]]
        obtain ⟨d0, d1, d2, d3, dl⟩ := id f1.all4
        have hB2 := Lib.hid (And.intro (hB1.alloc hB1.size (.cells #[.string ⟨#[119, 114, 97, 112]⟩, .bool true, .bool true, .func (.func 58) #[] #[]] 78)) (And.intro x2 f1))
        clear x1 hB1 x2 f1 hb1
        go_wp2_with fail
        refine (Ha.out _).mono ?_
        rintro e w' ⟨rfl, rfl⟩
        go_wp2_with fail
        refine (Ht.out _).mono ?_
        rintro e w' ⟨rfl, rfl⟩
        go_wp2
        go_ret
        exact ⟨rfl, hB2.out.1⟩
      | true =>
        obtain rfl : R = q := e
        go_enter Tryz.func25, Tryz.ntmps25
        go_wp2_with fail
        refine (Hg.out _).mono ?_
        rintro e w1 ⟨rfl, hb1⟩
        have x1 := HX.out.1.later hb1
        have hB1 := HX.out.2.trans (hb1.mono HX.out.2.size)
        have x2 := x1.alloc (.cells #[.string ⟨#[119, 114, 97, 112]⟩, .bool true, .bool true, .func (.func 58) #[] #[]] 78)
        obtain ⟨c0, c1, c2, c3, cl⟩ := id x2.all4
        have f1 := Bx.new w1 78 #[.string ⟨#[119, 114, 97, 112]⟩, .bool true, .bool true, .func (.func 58) #[] #[]]
        obtain ⟨d0, d1, d2, d3, dl⟩ := id f1.all4
        have hB2 := Lib.hid (And.intro (hB1.alloc hB1.size (.cells #[.string ⟨#[119, 114, 97, 112]⟩, .bool true, .bool true, .func (.func 58) #[] #[]] 78)) (And.intro x2 f1))
        clear x1 hB1 x2 f1 hb1
        go_wp2_with fail
        refine (Ha.out _).mono ?_
        rintro e w' ⟨rfl, rfl⟩
        go_wp2_with fail
        refine (Ht.out _).mono ?_
        rintro e w' ⟨rfl, rfl⟩
        go_wp2_with fail
        refine (Hb.out _).mono ?_
        rintro e w2 ⟨rfl, hb2⟩
        go_wp2
        go_ret
        exact ⟨rfl, hB2.out.1.trans (hb2.mono hB2.out.1.size)⟩
  · have Hg : Hid (∀ W, Calls Tryz.prog 40 #[.int .i64 5] W (TupPost (.tuple #[.agg #[.string ⟨#[110, 97, 109, 101]⟩, .bool false, .bool true, .func (.func 58) #[] #[]], .bool true]) W)) := Hf.out
    have e : R = (xa && (xt && (decide (t = 0) && brkB s))) := by rw [HR.out]; rfl
    clear hk HR Hf Hm Hn
    obtain ⟨q, hq⟩ : ∃ q, q = brkB s := ⟨_, rfl⟩
    rw [← hq] at Hb e
    clear hq
    cases xa with
    | false =>
      obtain rfl : R = false := e
      go_enter Tryz.func25, Tryz.ntmps25
      go_wp2_with fail
      refine (Hg.out _).mono ?_
      rintro e w1 ⟨rfl, hb1⟩
      have x1 := HX.out.1.later hb1
      have hB1 := HX.out.2.trans (hb1.mono HX.out.2.size)
      have x2 := x1.alloc (.cells #[.string ⟨#[110, 97, 109, 101]⟩, .bool false, .bool true, .func (.func 58) #[] #[]] 78)
      obtain ⟨c0, c1, c2, c3, cl⟩ := id x2.all4
      have f1 := Bx.new w1 78 #[.string ⟨#[110, 97, 109, 101]⟩, .bool false, .bool true, .func (.func 58) #[] #[]]
      obtain ⟨d0, d1, d2, d3, dl⟩ := id f1.all4
      have hB2 := Lib.hid (And.intro (hB1.alloc hB1.size (.cells #[.string ⟨#[110, 97, 109, 101]⟩, .bool false, .bool true, .func (.func 58) #[] #[]] 78)) (And.intro x2 f1))
      clear x1 hB1 x2 f1 hb1
      go_wp2_with fail
      refine (Ha.out _).mono ?_
      rintro e w' ⟨rfl, rfl⟩
      go_wp2
      go_ret
      exact ⟨rfl, hB2.out.1⟩
    | true =>
      cases xt with
      | false =>
        obtain rfl : R = false := e
        go_enter Tryz.func25, Tryz.ntmps25
        go_wp2_with fail
        refine (Hg.out _).mono ?_
        rintro e w1 ⟨rfl, hb1⟩
        have x1 := HX.out.1.later hb1
        have hB1 := HX.out.2.trans (hb1.mono HX.out.2.size)
        have x2 := x1.alloc (.cells #[.string ⟨#[110, 97, 109, 101]⟩, .bool false, .bool true, .func (.func 58) #[] #[]] 78)
        obtain ⟨c0, c1, c2, c3, cl⟩ := id x2.all4
        have f1 := Bx.new w1 78 #[.string ⟨#[110, 97, 109, 101]⟩, .bool false, .bool true, .func (.func 58) #[] #[]]
        obtain ⟨d0, d1, d2, d3, dl⟩ := id f1.all4
        have hB2 := Lib.hid (And.intro (hB1.alloc hB1.size (.cells #[.string ⟨#[110, 97, 109, 101]⟩, .bool false, .bool true, .func (.func 58) #[] #[]] 78)) (And.intro x2 f1))
        clear x1 hB1 x2 f1 hb1
        go_wp2_with fail
        refine (Ha.out _).mono ?_
        rintro e w' ⟨rfl, rfl⟩
        go_wp2_with fail
        refine (Ht.out _).mono ?_
        rintro e w' ⟨rfl, rfl⟩
        go_wp2
        go_ret
        exact ⟨rfl, hB2.out.1⟩
      | true =>
        by_cases t0 : t = 0
        · subst t0
          obtain rfl : R = q := e
          go_enter Tryz.func25, Tryz.ntmps25
          go_wp2_with fail
          refine (Hg.out _).mono ?_
          rintro e w1 ⟨rfl, hb1⟩
          have x1 := HX.out.1.later hb1
          have hB1 := HX.out.2.trans (hb1.mono HX.out.2.size)
          have x2 := x1.alloc (.cells #[.string ⟨#[110, 97, 109, 101]⟩, .bool false, .bool true, .func (.func 58) #[] #[]] 78)
          obtain ⟨c0, c1, c2, c3, cl⟩ := id x2.all4
          have f1 := Bx.new w1 78 #[.string ⟨#[110, 97, 109, 101]⟩, .bool false, .bool true, .func (.func 58) #[] #[]]
          obtain ⟨d0, d1, d2, d3, dl⟩ := id f1.all4
          have hB2 := Lib.hid (And.intro (hB1.alloc hB1.size (.cells #[.string ⟨#[110, 97, 109, 101]⟩, .bool false, .bool true, .func (.func 58) #[] #[]] 78)) (And.intro x2 f1))
          clear x1 hB1 x2 f1 hb1
          go_wp2_with fail
          refine (Ha.out _).mono ?_
          rintro e w' ⟨rfl, rfl⟩
          go_wp2_with fail
          refine (Ht.out _).mono ?_
          rintro e w' ⟨rfl, rfl⟩
          go_wp2_with fail
          refine (Hb.out _).mono ?_
          rintro e w2 ⟨rfl, hb2⟩
          go_wp2
          go_ret
          exact ⟨rfl, hB2.out.1.trans (hb2.mono hB2.out.1.size)⟩
        · have e5 : (t == 0) = false := by simpa using t0
          rw [decide_eq_false t0] at e
          obtain rfl : R = false := e
          go_enter Tryz.func25, Tryz.ntmps25
          go_wp2_with fail
          refine (Hg.out _).mono ?_
          rintro e w1 ⟨rfl, hb1⟩
          have x1 := HX.out.1.later hb1
          have hB1 := HX.out.2.trans (hb1.mono HX.out.2.size)
          have x2 := x1.alloc (.cells #[.string ⟨#[110, 97, 109, 101]⟩, .bool false, .bool true, .func (.func 58) #[] #[]] 78)
          obtain ⟨c0, c1, c2, c3, cl⟩ := id x2.all4
          have f1 := Bx.new w1 78 #[.string ⟨#[110, 97, 109, 101]⟩, .bool false, .bool true, .func (.func 58) #[] #[]]
          obtain ⟨d0, d1, d2, d3, dl⟩ := id f1.all4
          have hB2 := Lib.hid (And.intro (hB1.alloc hB1.size (.cells #[.string ⟨#[110, 97, 109, 101]⟩, .bool false, .bool true, .func (.func 58) #[] #[]] 78)) (And.intro x2 f1))
          clear x1 hB1 x2 f1 hb1
          go_wp2_with fail
          refine (Ha.out _).mono ?_
          rintro e w' ⟨rfl, rfl⟩
          go_wp2_with fail
          refine (Ht.out _).mono ?_
          rintro e w' ⟨rfl, rfl⟩
          go_wp2
          go_ret
          exact ⟨rfl, hB2.out.1⟩
end Go.Proofs.YtblgjedjljfmcaaGreatDoor
/- A slice literal's value, as a value that owns its block. -/
namespace Go.Proofs.YtblgjedjljfmcaaGreatDoor
open Go.RowKit

def LitF (base : Nat) (T : TypeId) (cs : Array Value) (n : Nat) : EP Unit := fun w v _ bs => ∃ b, v = .slice (some ⟨b, 0, none⟩) n n ∧ Bx w b T cs ∧ bs = [b] ∧ base ≤ b
theorem litf_ok (base : Nat) (T : TypeId) (cs : Array Value) (n : Nat) : EP.Ok base (LitF base T cs n) where
  kept := by rintro w w' v x bs ⟨b, rfl, h, rfl, hb⟩ hs; exact ⟨b, rfl, h.same (hs b (by simp)), rfl, hb⟩
  lt := by
    rintro w v x bs ⟨b, rfl, h, rfl, hb⟩ c hc
    rw [List.mem_singleton.1 hc]
    exact ⟨hb, h.lt⟩
  nodup := by rintro w v x bs ⟨b, rfl, h, rfl, hb⟩; simp
theorem LitF.new {base : Nat} (T : TypeId) (cs : Array Value) (n : Nat) (w : World) (h : base ≤ w.heap.size) : LitF base T cs n (w.alloc (.cells cs T)) (.slice (some ⟨w.heap.size, 0, none⟩) n n) () [w.heap.size] := ⟨w.heap.size, rfl, Bx.new _ _ _, rfl, h⟩
end Go.Proofs.YtblgjedjljfmcaaGreatDoor
