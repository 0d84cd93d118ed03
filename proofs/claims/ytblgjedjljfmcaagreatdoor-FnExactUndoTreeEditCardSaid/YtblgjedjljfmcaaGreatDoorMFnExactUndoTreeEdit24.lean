import Derived.Test.YtblgjedjljfmcaaGreatDoorMFnExactUndoTreeEdit21
import Derived.Test.YtblgjedjljfmcaaGreatDoorMFnExactUndoTreeEdit23
/- UndoTreeEdit of the model. -/
namespace Go.Proofs.YtblgjedjljfmcaaGreatDoor
open Go.RowKit
set_option linter.unusedVariables false

def undV (k a t : Int) (u : ByteArray) (c : Int) : Value := .tuple #[.agg (EdA k a t u), .int .i64 c]
def bothW (s : ByteArray) (a m : Nat) : ByteArray := s.extract a (a + 1) ++ s.extract m (m + 1)
theorem slice_at1 (s : ByteArray) (k : Nat) (h : k + 1 ≤ s.size) : ∀ W : World, (Instr.slice 9 (.string s) (some (.int .i64 (k : Int))) (some (.int .i64 ((k : Int) + 1))) none).run Tryz.prog W = .ok (.string (s.extract k (k + 1))) W := fun W => slice_ab s k (k + 1) (by omega) h W
theorem slice_upto (s : ByteArray) (k m : Nat) (hk : k ≤ m) (h : m + 1 ≤ s.size) : ∀ W : World, (Instr.slice 9 (.string s) (some (.int .i64 (k : Int))) (some (.int .i64 ((m : Int) + 1))) none).run Tryz.prog W = .ok (.string (s.extract k (m + 1))) W := fun W => slice_ab s k (m + 1) (by omega) h W
set_option maxHeartbeats 12800000 in
set_option maxRecDepth 100000 in
theorem spec_Undo_no (k a t : Int) (s u : ByteArray) (w : World) (hs : s.size ≤ 1048576) (hu : u.size ≤ 1048576) (h : (wB s && edB k a t u) = false) :
    Calls Tryz.prog 6 #[.string s, .agg (EdA k a t u)] w (TupPost (undV 0 0 0 ⟨#[]⟩ 1) w) := by
  have HG := Lib.hid (fun B W hx => spec_given (B := B) k a t s u W hs hu hx)
  simp only [h, Bool.false_eq_true, if_false] at HG
  have hBr := ((Below.refl w.heap.size w).alloc (Nat.le_refl _) (.cells (EdA k a t u) 25)).alloc (by simp) (.cells #[.int .i64 0, .int .i64 0, .int .i64 0, .string ⟨#[]⟩] 25)
  have hres := Bx.new (w.alloc (.cells (EdA k a t u) 25)) 25 #[.int .i64 0, .int .i64 0, .int .i64 0, .string ⟨#[]⟩]
  have hpar := (Bx.new w 25 (EdA k a t u)).alloc (.cells #[.int .i64 0, .int .i64 0, .int .i64 0, .string ⟨#[]⟩] 25)
  rw [World.size_alloc] at hres
  obtain ⟨Wr, hWr⟩ : ∃ Wr, Wr = (w.alloc (.cells (EdA k a t u) 25)).alloc (.cells #[.int .i64 0, .int .i64 0, .int .i64 0, .string ⟨#[]⟩] 25) := ⟨_, rfl⟩
  rw [← hWr] at hBr hres hpar
  have HR := Lib.hid (And.intro hBr (And.intro hres hpar))
  have hml : w.heap.size + 1 < Wr.heap.size := hres.lt
  have HWr := Lib.hid hWr
  clear hBr hres hpar hWr
  clear h
  go_enter Tryz.func6, Tryz.ntmps6
  go_wp2_with fail
  rw [← HWr.out]
  refine (HG.out _ _ HR.out.2.2).mono ?_
  rintro e w1 ⟨rfl, hbw⟩
  have xr := HR.out.2.1.same (hbw.block _ hml)
  obtain ⟨r0, r1, r2, r3, rl⟩ := id xr.all4
  have q0 := xr.frozen 0
  have q1 := xr.frozen 1
  have q2 := xr.frozen 2
  have q3 := xr.frozen 3
  have Hf := Lib.hid hbw
  clear xr hbw
  go_wp2
  have x4 := ((((HR.out.2.1.same (Hf.out.block _ hml)).set 0 (.int .i64 0)).set 1 (.int .i64 0)).set 2 (.int .i64 0)).set 3 (.string ⟨#[]⟩)
  have f0 := x4.cell 0 _ rfl
  have f1 := x4.cell 1 _ rfl
  have f2 := x4.cell 2 _ rfl
  have f3 := x4.cell 3 _ rfl
  have hBf := ((((HR.out.1.trans (Hf.out.mono HR.out.1.size)).setCell (p := ⟨w.heap.size + 1, 0, none⟩) (by simp) (.int .i64 0)).setCell (p := ⟨w.heap.size + 1, 1, none⟩) (by simp) (.int .i64 0)).setCell (p := ⟨w.heap.size + 1, 2, none⟩) (by simp) (.int .i64 0)).setCell (p := ⟨w.heap.size + 1, 3, none⟩) (by simp) (.string ⟨#[]⟩)
  exact bodyPost_ret (v := undV 0 0 0 ⟨#[]⟩ 1) (by simp [results, Tryz.results6, go_sem, f0, f1, f2, f3, undV, EdA]) rfl ⟨rfl, hBf⟩
set_option maxHeartbeats 12800000 in
set_option maxRecDepth 100000 in
theorem spec_Undo_bad (k a t : Int) (s u r : ByteArray) (c : Int) (w : World) (hs : s.size ≤ 1048576) (hu : u.size ≤ 1048576) (h : (wB s && edB k a t u) = true) (hc : c ≠ 0)
    (hM : ∀ B w, Bx w B 25 (EdA k a t u) → Calls Tryz.prog 13 #[.string s, .pointer (some ⟨B, 0, none⟩)] w (TupPost (madV r c) w)) :
    Calls Tryz.prog 6 #[.string s, .agg (EdA k a t u)] w (TupPost (undV 0 0 0 ⟨#[]⟩ c) w) := by
  have HG := Lib.hid (fun B W hx => spec_given (B := B) k a t s u W hs hu hx)
  simp only [h, if_true] at HG
  have HM := Lib.hid hM
  unfold madV at HM
  have hcd : (c != 0) = true := by simpa using hc
  have hcb : (c == 0) = false := by simpa using hc
  have hBr := ((Below.refl w.heap.size w).alloc (Nat.le_refl _) (.cells (EdA k a t u) 25)).alloc (by simp) (.cells #[.int .i64 0, .int .i64 0, .int .i64 0, .string ⟨#[]⟩] 25)
  have hres := Bx.new (w.alloc (.cells (EdA k a t u) 25)) 25 #[.int .i64 0, .int .i64 0, .int .i64 0, .string ⟨#[]⟩]
  have hpar := (Bx.new w 25 (EdA k a t u)).alloc (.cells #[.int .i64 0, .int .i64 0, .int .i64 0, .string ⟨#[]⟩] 25)
  rw [World.size_alloc] at hres
  obtain ⟨Wr, hWr⟩ : ∃ Wr, Wr = (w.alloc (.cells (EdA k a t u) 25)).alloc (.cells #[.int .i64 0, .int .i64 0, .int .i64 0, .string ⟨#[]⟩] 25) := ⟨_, rfl⟩
  rw [← hWr] at hBr hres hpar
  have HR := Lib.hid (And.intro hBr (And.intro hres hpar))
  have hml : w.heap.size + 1 < Wr.heap.size := hres.lt
  have HWr := Lib.hid hWr
  clear hBr hres hpar hWr
  clear h hM
  go_enter Tryz.func6, Tryz.ntmps6
  go_wp2_with fail
  rw [← HWr.out]
  refine (HG.out _ _ HR.out.2.2).mono ?_
  rintro e w1 ⟨rfl, hb1⟩
  have HB1 := Lib.hid hb1
  clear hb1
  go_wp2_with fail
  refine (HM.out _ _ (HR.out.2.2.later HB1.out)).mono ?_
  rintro e w2 ⟨rfl, hb2⟩
  have hbw := HB1.out.trans (hb2.mono HB1.out.size)
  clear hb2
  have xp := HR.out.2.2.later hbw
  obtain ⟨c0, c1, c2, c3, cl⟩ := id xp.all4
  have HXP := Lib.hid xp
  clear xp
  have xr := HR.out.2.1.same (hbw.block _ hml)
  obtain ⟨r0, r1, r2, r3, rl⟩ := id xr.all4
  have q0 := xr.frozen 0
  have q1 := xr.frozen 1
  have q2 := xr.frozen 2
  have q3 := xr.frozen 3
  have Hf := Lib.hid hbw
  clear xr hbw
  go_wp2
  have x4 := ((((HR.out.2.1.same (Hf.out.block _ hml)).set 0 (.int .i64 0)).set 1 (.int .i64 0)).set 2 (.int .i64 0)).set 3 (.string ⟨#[]⟩)
  have f0 := x4.cell 0 _ rfl
  have f1 := x4.cell 1 _ rfl
  have f2 := x4.cell 2 _ rfl
  have f3 := x4.cell 3 _ rfl
  have hBf := ((((HR.out.1.trans (Hf.out.mono HR.out.1.size)).setCell (p := ⟨w.heap.size + 1, 0, none⟩) (by simp) (.int .i64 0)).setCell (p := ⟨w.heap.size + 1, 1, none⟩) (by simp) (.int .i64 0)).setCell (p := ⟨w.heap.size + 1, 2, none⟩) (by simp) (.int .i64 0)).setCell (p := ⟨w.heap.size + 1, 3, none⟩) (by simp) (.string ⟨#[]⟩)
  exact bodyPost_ret (v := undV 0 0 0 ⟨#[]⟩ c) (by simp [results, Tryz.results6, go_sem, f0, f1, f2, f3, undV, EdA]) rfl ⟨rfl, hBf⟩
set_option maxHeartbeats 12800000 in
set_option maxRecDepth 100000 in
theorem spec_Undo_wrap (a t : Int) (s u r : ByteArray) (w : World) (hs : s.size ≤ 1048576) (hu : u.size ≤ 1048576) (h : (wB s && edB 4 a t u) = true)
    (hM : ∀ B w, Bx w B 25 (EdA 4 a t u) → Calls Tryz.prog 13 #[.string s, .pointer (some ⟨B, 0, none⟩)] w (TupPost (madV r 0) w)) :
    Calls Tryz.prog 6 #[.string s, .agg (EdA 4 a t u)] w (TupPost (undV 3 a 0 ⟨#[]⟩ 0) w) := by
  have HG := Lib.hid (fun B W hx => spec_given (B := B) 4 a t s u W hs hu hx)
  simp only [h, if_true] at HG
  have HM := Lib.hid hM
  unfold madV at HM
  have hBr := ((Below.refl w.heap.size w).alloc (Nat.le_refl _) (.cells (EdA 4 a t u) 25)).alloc (by simp) (.cells #[.int .i64 0, .int .i64 0, .int .i64 0, .string ⟨#[]⟩] 25)
  have hres := Bx.new (w.alloc (.cells (EdA 4 a t u) 25)) 25 #[.int .i64 0, .int .i64 0, .int .i64 0, .string ⟨#[]⟩]
  have hpar := (Bx.new w 25 (EdA 4 a t u)).alloc (.cells #[.int .i64 0, .int .i64 0, .int .i64 0, .string ⟨#[]⟩] 25)
  rw [World.size_alloc] at hres
  obtain ⟨Wr, hWr⟩ : ∃ Wr, Wr = (w.alloc (.cells (EdA 4 a t u) 25)).alloc (.cells #[.int .i64 0, .int .i64 0, .int .i64 0, .string ⟨#[]⟩] 25) := ⟨_, rfl⟩
  rw [← hWr] at hBr hres hpar
  have HR := Lib.hid (And.intro hBr (And.intro hres hpar))
  have hml : w.heap.size + 1 < Wr.heap.size := hres.lt
  have HWr := Lib.hid hWr
  clear hBr hres hpar hWr
  clear h hM
  go_enter Tryz.func6, Tryz.ntmps6
  go_wp2_with fail
  rw [← HWr.out]
  refine (HG.out _ _ HR.out.2.2).mono ?_
  rintro e w1 ⟨rfl, hb1⟩
  have HB1 := Lib.hid hb1
  clear hb1
  go_wp2_with fail
  refine (HM.out _ _ (HR.out.2.2.later HB1.out)).mono ?_
  rintro e w2 ⟨rfl, hb2⟩
  have hbw := HB1.out.trans (hb2.mono HB1.out.size)
  clear hb2
  have xp := HR.out.2.2.later hbw
  obtain ⟨c0, c1, c2, c3, cl⟩ := id xp.all4
  have HXP := Lib.hid xp
  clear xp
  have xr := HR.out.2.1.same (hbw.block _ hml)
  obtain ⟨r0, r1, r2, r3, rl⟩ := id xr.all4
  have q0 := xr.frozen 0
  have q1 := xr.frozen 1
  have q2 := xr.frozen 2
  have q3 := xr.frozen 3
  have Hf := Lib.hid hbw
  clear xr hbw
  go_wp2
  have x4 := ((((HR.out.2.1.same (Hf.out.block _ hml)).set 0 (.int .i64 3)).set 1 (.int .i64 a)).set 2 (.int .i64 0)).set 3 (.string ⟨#[]⟩)
  have f0 := x4.cell 0 _ rfl
  have f1 := x4.cell 1 _ rfl
  have f2 := x4.cell 2 _ rfl
  have f3 := x4.cell 3 _ rfl
  have hBf := ((((HR.out.1.trans (Hf.out.mono HR.out.1.size)).setCell (p := ⟨w.heap.size + 1, 0, none⟩) (by simp) (.int .i64 3)).setCell (p := ⟨w.heap.size + 1, 1, none⟩) (by simp) (.int .i64 a)).setCell (p := ⟨w.heap.size + 1, 2, none⟩) (by simp) (.int .i64 0)).setCell (p := ⟨w.heap.size + 1, 3, none⟩) (by simp) (.string ⟨#[]⟩)
  exact bodyPost_ret (v := undV 3 a 0 ⟨#[]⟩ 0) (by simp [results, Tryz.results6, go_sem, f0, f1, f2, f3, undV, EdA]) rfl ⟨rfl, hBf⟩
set_option maxHeartbeats 12800000 in
set_option maxRecDepth 100000 in
theorem spec_Undo_empty (a t : Int) (s u r : ByteArray) (w : World) (hs : s.size ≤ 1048576) (hu : u.size ≤ 1048576) (h : (wB s && edB 1 a t u) = true) (he : u = ⟨#[]⟩)
    (hM : ∀ B w, Bx w B 25 (EdA 1 a t u) → Calls Tryz.prog 13 #[.string s, .pointer (some ⟨B, 0, none⟩)] w (TupPost (madV r 0) w)) :
    Calls Tryz.prog 6 #[.string s, .agg (EdA 1 a t u)] w (TupPost (undV 1 a 0 ⟨#[]⟩ 0) w) := by
  have HG := Lib.hid (fun B W hx => spec_given (B := B) 1 a t s u W hs hu hx)
  simp only [h, if_true] at HG
  have HM := Lib.hid hM
  unfold madV at HM
  have hemp : (u.toList == []) = true := by subst he; rw [ByteArray.toList_eq]; rfl
  clear he
  have hBr := ((Below.refl w.heap.size w).alloc (Nat.le_refl _) (.cells (EdA 1 a t u) 25)).alloc (by simp) (.cells #[.int .i64 0, .int .i64 0, .int .i64 0, .string ⟨#[]⟩] 25)
  have hres := Bx.new (w.alloc (.cells (EdA 1 a t u) 25)) 25 #[.int .i64 0, .int .i64 0, .int .i64 0, .string ⟨#[]⟩]
  have hpar := (Bx.new w 25 (EdA 1 a t u)).alloc (.cells #[.int .i64 0, .int .i64 0, .int .i64 0, .string ⟨#[]⟩] 25)
  rw [World.size_alloc] at hres
  obtain ⟨Wr, hWr⟩ : ∃ Wr, Wr = (w.alloc (.cells (EdA 1 a t u) 25)).alloc (.cells #[.int .i64 0, .int .i64 0, .int .i64 0, .string ⟨#[]⟩] 25) := ⟨_, rfl⟩
  rw [← hWr] at hBr hres hpar
  have HR := Lib.hid (And.intro hBr (And.intro hres hpar))
  have hml : w.heap.size + 1 < Wr.heap.size := hres.lt
  have HWr := Lib.hid hWr
  clear hBr hres hpar hWr
  clear h hM
  go_enter Tryz.func6, Tryz.ntmps6
  go_wp2_with fail
  rw [← HWr.out]
  refine (HG.out _ _ HR.out.2.2).mono ?_
  rintro e w1 ⟨rfl, hb1⟩
  have HB1 := Lib.hid hb1
  clear hb1
  go_wp2_with fail
  refine (HM.out _ _ (HR.out.2.2.later HB1.out)).mono ?_
  rintro e w2 ⟨rfl, hb2⟩
  have hbw := HB1.out.trans (hb2.mono HB1.out.size)
  clear hb2
  have xp := HR.out.2.2.later hbw
  obtain ⟨c0, c1, c2, c3, cl⟩ := id xp.all4
  have HXP := Lib.hid xp
  clear xp
  have xr := HR.out.2.1.same (hbw.block _ hml)
  obtain ⟨r0, r1, r2, r3, rl⟩ := id xr.all4
  have q0 := xr.frozen 0
  have q1 := xr.frozen 1
  have q2 := xr.frozen 2
  have q3 := xr.frozen 3
  have Hf := Lib.hid hbw
  clear xr hbw
  go_wp2
  have x4 := ((((HR.out.2.1.same (Hf.out.block _ hml)).set 0 (.int .i64 1)).set 1 (.int .i64 a)).set 2 (.int .i64 0)).set 3 (.string ⟨#[]⟩)
  have f0 := x4.cell 0 _ rfl
  have f1 := x4.cell 1 _ rfl
  have f2 := x4.cell 2 _ rfl
  have f3 := x4.cell 3 _ rfl
  have hBf := ((((HR.out.1.trans (Hf.out.mono HR.out.1.size)).setCell (p := ⟨w.heap.size + 1, 0, none⟩) (by simp) (.int .i64 1)).setCell (p := ⟨w.heap.size + 1, 1, none⟩) (by simp) (.int .i64 a)).setCell (p := ⟨w.heap.size + 1, 2, none⟩) (by simp) (.int .i64 0)).setCell (p := ⟨w.heap.size + 1, 3, none⟩) (by simp) (.string ⟨#[]⟩)
  exact bodyPost_ret (v := undV 1 a 0 ⟨#[]⟩ 0) (by simp [results, Tryz.results6, go_sem, f0, f1, f2, f3, undV, EdA]) rfl ⟨rfl, hBf⟩
set_option maxHeartbeats 12800000 in
set_option maxRecDepth 100000 in
theorem spec_Undo_one (a t : Int) (s u r : ByteArray) (w : World) (hs : s.size ≤ 1048576) (hu : u.size ≤ 1048576) (h : (wB s && edB 1 a t u) = true) (he : ¬ u = ⟨#[]⟩) (h1 : u.size = 1)
    (hM : ∀ B w, Bx w B 25 (EdA 1 a t u) → Calls Tryz.prog 13 #[.string s, .pointer (some ⟨B, 0, none⟩)] w (TupPost (madV r 0) w)) :
    Calls Tryz.prog 6 #[.string s, .agg (EdA 1 a t u)] w (TupPost (undV 0 0 0 ⟨#[]⟩ 4) w) := by
  have HG := Lib.hid (fun B W hx => spec_given (B := B) 1 a t s u W hs hu hx)
  simp only [h, if_true] at HG
  have HM := Lib.hid hM
  unfold madV at HM
  have hne : (u.toList == []) = false := by
    have e : [] = (⟨#[]⟩ : ByteArray).toList := by rw [ByteArray.toList_eq]
    rw [e, ByteArray.toList_eq, ByteArray.toList_eq]
    refine beq_eq_false_iff_ne.2 fun e => he ?_
    obtain ⟨⟨l⟩⟩ := u
    simp at e
    rw [e]
  clear he
  have h1i : ((u.size : Int) == 1) = true := by simp [h1]
  have hBr := ((Below.refl w.heap.size w).alloc (Nat.le_refl _) (.cells (EdA 1 a t u) 25)).alloc (by simp) (.cells #[.int .i64 0, .int .i64 0, .int .i64 0, .string ⟨#[]⟩] 25)
  have hres := Bx.new (w.alloc (.cells (EdA 1 a t u) 25)) 25 #[.int .i64 0, .int .i64 0, .int .i64 0, .string ⟨#[]⟩]
  have hpar := (Bx.new w 25 (EdA 1 a t u)).alloc (.cells #[.int .i64 0, .int .i64 0, .int .i64 0, .string ⟨#[]⟩] 25)
  rw [World.size_alloc] at hres
  obtain ⟨Wr, hWr⟩ : ∃ Wr, Wr = (w.alloc (.cells (EdA 1 a t u) 25)).alloc (.cells #[.int .i64 0, .int .i64 0, .int .i64 0, .string ⟨#[]⟩] 25) := ⟨_, rfl⟩
  rw [← hWr] at hBr hres hpar
  have HR := Lib.hid (And.intro hBr (And.intro hres hpar))
  have hml : w.heap.size + 1 < Wr.heap.size := hres.lt
  have HWr := Lib.hid hWr
  clear hBr hres hpar hWr
  clear h hM
  go_enter Tryz.func6, Tryz.ntmps6
  go_wp2_with fail
  rw [← HWr.out]
  refine (HG.out _ _ HR.out.2.2).mono ?_
  rintro e w1 ⟨rfl, hb1⟩
  have HB1 := Lib.hid hb1
  clear hb1
  go_wp2_with fail
  refine (HM.out _ _ (HR.out.2.2.later HB1.out)).mono ?_
  rintro e w2 ⟨rfl, hb2⟩
  have hbw := HB1.out.trans (hb2.mono HB1.out.size)
  clear hb2
  have xp := HR.out.2.2.later hbw
  obtain ⟨c0, c1, c2, c3, cl⟩ := id xp.all4
  have HXP := Lib.hid xp
  clear xp
  have xr := HR.out.2.1.same (hbw.block _ hml)
  obtain ⟨r0, r1, r2, r3, rl⟩ := id xr.all4
  have q0 := xr.frozen 0
  have q1 := xr.frozen 1
  have q2 := xr.frozen 2
  have q3 := xr.frozen 3
  have Hf := Lib.hid hbw
  clear xr hbw
  go_wp2
  have x4 := ((((HR.out.2.1.same (Hf.out.block _ hml)).set 0 (.int .i64 0)).set 1 (.int .i64 0)).set 2 (.int .i64 0)).set 3 (.string ⟨#[]⟩)
  have f0 := x4.cell 0 _ rfl
  have f1 := x4.cell 1 _ rfl
  have f2 := x4.cell 2 _ rfl
  have f3 := x4.cell 3 _ rfl
  have hBf := ((((HR.out.1.trans (Hf.out.mono HR.out.1.size)).setCell (p := ⟨w.heap.size + 1, 0, none⟩) (by simp) (.int .i64 0)).setCell (p := ⟨w.heap.size + 1, 1, none⟩) (by simp) (.int .i64 0)).setCell (p := ⟨w.heap.size + 1, 2, none⟩) (by simp) (.int .i64 0)).setCell (p := ⟨w.heap.size + 1, 3, none⟩) (by simp) (.string ⟨#[]⟩)
  exact bodyPost_ret (v := undV 0 0 0 ⟨#[]⟩ 4) (by simp [results, Tryz.results6, go_sem, f0, f1, f2, f3, undV, EdA]) rfl ⟨rfl, hBf⟩
set_option maxHeartbeats 12800000 in
set_option maxRecDepth 100000 in
theorem spec_Undo_many (a t : Int) (s u r : ByteArray) (w : World) (hs : s.size ≤ 1048576) (hu : u.size ≤ 1048576) (h : (wB s && edB 1 a t u) = true) (he : ¬ u = ⟨#[]⟩) (h1 : u.size ≠ 1) (hW : IsW u) (hm : mB u.data.toList = true) (hf : (facW u u.size).length ≠ 1)
    (hM : ∀ B w, Bx w B 25 (EdA 1 a t u) → Calls Tryz.prog 13 #[.string s, .pointer (some ⟨B, 0, none⟩)] w (TupPost (madV r 0) w)) :
    Calls Tryz.prog 6 #[.string s, .agg (EdA 1 a t u)] w (TupPost (undV 0 0 0 ⟨#[]⟩ 4) w) := by
  have HG := Lib.hid (fun B W hx => spec_given (B := B) 1 a t s u W hs hu hx)
  simp only [h, if_true] at HG
  have HM := Lib.hid hM
  unfold madV at HM
  have hne : (u.toList == []) = false := by
    have e : [] = (⟨#[]⟩ : ByteArray).toList := by rw [ByteArray.toList_eq]
    rw [e, ByteArray.toList_eq, ByteArray.toList_eq]
    refine beq_eq_false_iff_ne.2 fun e => he ?_
    obtain ⟨⟨l⟩⟩ := u
    simp at e
    rw [e]
  clear he
  have HF := Lib.hid (fun W => spec_factors u W hW hm)
  have h1n : ((u.size : Int) == 1) = false := by simp only [beq_eq_false_iff_ne]; omega
  have h1m : ¬ ((u.size : Int) = 1) := by omega
  obtain ⟨n, hn⟩ : ∃ n, n = (facW u u.size).length := ⟨_, rfl⟩
  have HF2 : Hid (∀ W, Calls Tryz.prog 14 #[.string u] W (fun e w' => ∃ A c, e = .returned (.slice A n c) ∧ Below W.heap.size W w')) := by rw [hn]; exact fun W => (HF.out W).mono fun e w' ⟨A, c, h1, _, h2⟩ => ⟨A, c, h1, h2⟩
  rw [← hn] at hf
  have hfi : ((n : Int) != 1) = true := by simp only [bne_iff_ne]; omega
  have hfj : ¬ ((n : Int) = 1) := by omega
  clear hn hW hm HF h1
  have hBr := ((Below.refl w.heap.size w).alloc (Nat.le_refl _) (.cells (EdA 1 a t u) 25)).alloc (by simp) (.cells #[.int .i64 0, .int .i64 0, .int .i64 0, .string ⟨#[]⟩] 25)
  have hres := Bx.new (w.alloc (.cells (EdA 1 a t u) 25)) 25 #[.int .i64 0, .int .i64 0, .int .i64 0, .string ⟨#[]⟩]
  have hpar := (Bx.new w 25 (EdA 1 a t u)).alloc (.cells #[.int .i64 0, .int .i64 0, .int .i64 0, .string ⟨#[]⟩] 25)
  rw [World.size_alloc] at hres
  obtain ⟨Wr, hWr⟩ : ∃ Wr, Wr = (w.alloc (.cells (EdA 1 a t u) 25)).alloc (.cells #[.int .i64 0, .int .i64 0, .int .i64 0, .string ⟨#[]⟩] 25) := ⟨_, rfl⟩
  rw [← hWr] at hBr hres hpar
  have HR := Lib.hid (And.intro hBr (And.intro hres hpar))
  have hml : w.heap.size + 1 < Wr.heap.size := hres.lt
  have HWr := Lib.hid hWr
  clear hBr hres hpar hWr
  clear h hM
  go_enter Tryz.func6, Tryz.ntmps6
  go_wp2_with fail
  rw [← HWr.out]
  refine (HG.out _ _ HR.out.2.2).mono ?_
  rintro e w1 ⟨rfl, hb1⟩
  have HB1 := Lib.hid hb1
  clear hb1
  go_wp2_with fail
  refine (HM.out _ _ (HR.out.2.2.later HB1.out)).mono ?_
  rintro e w2 ⟨rfl, hb2⟩
  have hbw := HB1.out.trans (hb2.mono HB1.out.size)
  clear hb2
  have xp := HR.out.2.2.later hbw
  obtain ⟨c0, c1, c2, c3, cl⟩ := id xp.all4
  have HXP := Lib.hid xp
  clear xp
  go_wp2_with fail
  refine (HF2.out _).mono ?_
  rintro e w3 ⟨A, cc, rfl, hb3⟩
  clear c0 c1 c2 c3 cl
  obtain ⟨c0, c1, c2, c3, cl⟩ := id (HXP.out.later hb3).all4
  have hbx := hbw.trans (hb3.mono hbw.size)
  clear hbw hb3
  have hbw := hbx
  clear hbx
  have xr := HR.out.2.1.same (hbw.block _ hml)
  obtain ⟨r0, r1, r2, r3, rl⟩ := id xr.all4
  have q0 := xr.frozen 0
  have q1 := xr.frozen 1
  have q2 := xr.frozen 2
  have q3 := xr.frozen 3
  have Hf := Lib.hid hbw
  clear xr hbw
  go_wp2
  have x4 := ((((HR.out.2.1.same (Hf.out.block _ hml)).set 0 (.int .i64 0)).set 1 (.int .i64 0)).set 2 (.int .i64 0)).set 3 (.string ⟨#[]⟩)
  have f0 := x4.cell 0 _ rfl
  have f1 := x4.cell 1 _ rfl
  have f2 := x4.cell 2 _ rfl
  have f3 := x4.cell 3 _ rfl
  have hBf := ((((HR.out.1.trans (Hf.out.mono HR.out.1.size)).setCell (p := ⟨w.heap.size + 1, 0, none⟩) (by simp) (.int .i64 0)).setCell (p := ⟨w.heap.size + 1, 1, none⟩) (by simp) (.int .i64 0)).setCell (p := ⟨w.heap.size + 1, 2, none⟩) (by simp) (.int .i64 0)).setCell (p := ⟨w.heap.size + 1, 3, none⟩) (by simp) (.string ⟨#[]⟩)
  exact bodyPost_ret (v := undV 0 0 0 ⟨#[]⟩ 4) (by simp [results, Tryz.results6, go_sem, f0, f1, f2, f3, undV, EdA]) rfl ⟨rfl, hBf⟩
set_option maxHeartbeats 12800000 in
set_option maxRecDepth 100000 in
theorem spec_Undo_factor (a t : Int) (s u r : ByteArray) (w : World) (hs : s.size ≤ 1048576) (hu : u.size ≤ 1048576) (h : (wB s && edB 1 a t u) = true) (he : ¬ u = ⟨#[]⟩) (h1 : u.size ≠ 1) (hW : IsW u) (hm : mB u.data.toList = true) (hf : (facW u u.size).length = 1)
    (hM : ∀ B w, Bx w B 25 (EdA 1 a t u) → Calls Tryz.prog 13 #[.string s, .pointer (some ⟨B, 0, none⟩)] w (TupPost (madV r 0) w)) :
    Calls Tryz.prog 6 #[.string s, .agg (EdA 1 a t u)] w (TupPost (undV 2 a 0 ⟨#[]⟩ 0) w) := by
  have HG := Lib.hid (fun B W hx => spec_given (B := B) 1 a t s u W hs hu hx)
  simp only [h, if_true] at HG
  have HM := Lib.hid hM
  unfold madV at HM
  have hne : (u.toList == []) = false := by
    have e : [] = (⟨#[]⟩ : ByteArray).toList := by rw [ByteArray.toList_eq]
    rw [e, ByteArray.toList_eq, ByteArray.toList_eq]
    refine beq_eq_false_iff_ne.2 fun e => he ?_
    obtain ⟨⟨l⟩⟩ := u
    simp at e
    rw [e]
  clear he
  have HF := Lib.hid (fun W => spec_factors u W hW hm)
  have h1n : ((u.size : Int) == 1) = false := by simp only [beq_eq_false_iff_ne]; omega
  have h1m : ¬ ((u.size : Int) = 1) := by omega
  obtain ⟨n, hn⟩ : ∃ n, n = (facW u u.size).length := ⟨_, rfl⟩
  have HF2 : Hid (∀ W, Calls Tryz.prog 14 #[.string u] W (fun e w' => ∃ A c, e = .returned (.slice A n c) ∧ Below W.heap.size W w')) := by rw [hn]; exact fun W => (HF.out W).mono fun e w' ⟨A, c, h1, _, h2⟩ => ⟨A, c, h1, h2⟩
  rw [← hn] at hf
  subst hf
  clear hn hW hm HF h1
  have hBr := ((Below.refl w.heap.size w).alloc (Nat.le_refl _) (.cells (EdA 1 a t u) 25)).alloc (by simp) (.cells #[.int .i64 0, .int .i64 0, .int .i64 0, .string ⟨#[]⟩] 25)
  have hres := Bx.new (w.alloc (.cells (EdA 1 a t u) 25)) 25 #[.int .i64 0, .int .i64 0, .int .i64 0, .string ⟨#[]⟩]
  have hpar := (Bx.new w 25 (EdA 1 a t u)).alloc (.cells #[.int .i64 0, .int .i64 0, .int .i64 0, .string ⟨#[]⟩] 25)
  rw [World.size_alloc] at hres
  obtain ⟨Wr, hWr⟩ : ∃ Wr, Wr = (w.alloc (.cells (EdA 1 a t u) 25)).alloc (.cells #[.int .i64 0, .int .i64 0, .int .i64 0, .string ⟨#[]⟩] 25) := ⟨_, rfl⟩
  rw [← hWr] at hBr hres hpar
  have HR := Lib.hid (And.intro hBr (And.intro hres hpar))
  have hml : w.heap.size + 1 < Wr.heap.size := hres.lt
  have HWr := Lib.hid hWr
  clear hBr hres hpar hWr
  clear h hM
  go_enter Tryz.func6, Tryz.ntmps6
  go_wp2_with fail
  rw [← HWr.out]
  refine (HG.out _ _ HR.out.2.2).mono ?_
  rintro e w1 ⟨rfl, hb1⟩
  have HB1 := Lib.hid hb1
  clear hb1
  go_wp2_with fail
  refine (HM.out _ _ (HR.out.2.2.later HB1.out)).mono ?_
  rintro e w2 ⟨rfl, hb2⟩
  have hbw := HB1.out.trans (hb2.mono HB1.out.size)
  clear hb2
  have xp := HR.out.2.2.later hbw
  obtain ⟨c0, c1, c2, c3, cl⟩ := id xp.all4
  have HXP := Lib.hid xp
  clear xp
  go_wp2_with fail
  refine (HF2.out _).mono ?_
  rintro e w3 ⟨A, cc, rfl, hb3⟩
  clear c0 c1 c2 c3 cl
  obtain ⟨c0, c1, c2, c3, cl⟩ := id (HXP.out.later hb3).all4
  have hbx := hbw.trans (hb3.mono hbw.size)
  clear hbw hb3
  have hbw := hbx
  clear hbx
  have xr := HR.out.2.1.same (hbw.block _ hml)
  obtain ⟨r0, r1, r2, r3, rl⟩ := id xr.all4
  have q0 := xr.frozen 0
  have q1 := xr.frozen 1
  have q2 := xr.frozen 2
  have q3 := xr.frozen 3
  have Hf := Lib.hid hbw
  clear xr hbw
  go_wp2
  have x4 := ((((HR.out.2.1.same (Hf.out.block _ hml)).set 0 (.int .i64 2)).set 1 (.int .i64 a)).set 2 (.int .i64 0)).set 3 (.string ⟨#[]⟩)
  have f0 := x4.cell 0 _ rfl
  have f1 := x4.cell 1 _ rfl
  have f2 := x4.cell 2 _ rfl
  have f3 := x4.cell 3 _ rfl
  have hBf := ((((HR.out.1.trans (Hf.out.mono HR.out.1.size)).setCell (p := ⟨w.heap.size + 1, 0, none⟩) (by simp) (.int .i64 2)).setCell (p := ⟨w.heap.size + 1, 1, none⟩) (by simp) (.int .i64 a)).setCell (p := ⟨w.heap.size + 1, 2, none⟩) (by simp) (.int .i64 0)).setCell (p := ⟨w.heap.size + 1, 3, none⟩) (by simp) (.string ⟨#[]⟩)
  exact bodyPost_ret (v := undV 2 a 0 ⟨#[]⟩ 0) (by simp [results, Tryz.results6, go_sem, f0, f1, f2, f3, undV, EdA]) rfl ⟨rfl, hBf⟩
set_option maxHeartbeats 12800000 in
set_option maxRecDepth 100000 in
theorem spec_Undo_cut (a t : Nat) (s u r : ByteArray) (w : World) (hs : s.size ≤ 1048576) (hu : u.size ≤ 1048576) (h : (wB s && edB 2 a t u) = true) (H : IsW s) (ha : a < s.size) (m : Nat) (hp : (prts (ksOf s.data.toList))[a]? = some (m : Int)) (hm : a < m) (hms : m < s.size)
    (hM : ∀ B w, Bx w B 25 (EdA 2 a t u) → Calls Tryz.prog 13 #[.string s, .pointer (some ⟨B, 0, none⟩)] w (TupPost (madV r 0) w)) :
    Calls Tryz.prog 6 #[.string s, .agg (EdA 2 a t u)] w (TupPost (undV 1 a 0 (s.extract a (m + 1)) 0) w) := by
  have HG := Lib.hid (fun B W hx => spec_given (B := B) 2 a t s u W hs hu hx)
  simp only [h, if_true] at HG
  have HM := Lib.hid hM
  unfold madV at HM
  have HW := Lib.hid H
  have Hp := Lib.hid hp
  have h60 := H.1
  have hl1 := slice_at1 s a (by omega)
  have hl2 := slice_at1 s m (by omega)
  have hl3 := slice_upto s a m (by omega) (by omega)
  have z1 := ext_le s a (a + 1) h60
  have z2 := ext_le s m (m + 1) h60
  have z3 := ext_le s a (m + 1) h60
  have hix : (a : Int) < (s.size : Int) := by omega
  try unfold bothW
  generalize s.extract a (a + 1) = p1 at *
  generalize s.extract m (m + 1) = p2 at *
  generalize s.extract a (m + 1) = p3 at *
  clear H hp
  have hBr := ((Below.refl w.heap.size w).alloc (Nat.le_refl _) (.cells (EdA 2 a t u) 25)).alloc (by simp) (.cells #[.int .i64 0, .int .i64 0, .int .i64 0, .string ⟨#[]⟩] 25)
  have hres := Bx.new (w.alloc (.cells (EdA 2 a t u) 25)) 25 #[.int .i64 0, .int .i64 0, .int .i64 0, .string ⟨#[]⟩]
  have hpar := (Bx.new w 25 (EdA 2 a t u)).alloc (.cells #[.int .i64 0, .int .i64 0, .int .i64 0, .string ⟨#[]⟩] 25)
  rw [World.size_alloc] at hres
  obtain ⟨Wr, hWr⟩ : ∃ Wr, Wr = (w.alloc (.cells (EdA 2 a t u) 25)).alloc (.cells #[.int .i64 0, .int .i64 0, .int .i64 0, .string ⟨#[]⟩] 25) := ⟨_, rfl⟩
  rw [← hWr] at hBr hres hpar
  have HR := Lib.hid (And.intro hBr (And.intro hres hpar))
  have hml : w.heap.size + 1 < Wr.heap.size := hres.lt
  have HWr := Lib.hid hWr
  clear hBr hres hpar hWr
  clear h hM
  go_enter Tryz.func6, Tryz.ntmps6
  go_wp2_with fail
  rw [← HWr.out]
  refine (HG.out _ _ HR.out.2.2).mono ?_
  rintro e w1 ⟨rfl, hb1⟩
  have HB1 := Lib.hid hb1
  clear hb1
  go_wp2_with fail
  refine (HM.out _ _ (HR.out.2.2.later HB1.out)).mono ?_
  rintro e w2 ⟨rfl, hb2⟩
  have hbw := HB1.out.trans (hb2.mono HB1.out.size)
  clear hb2
  have xp := HR.out.2.2.later hbw
  obtain ⟨c0, c1, c2, c3, cl⟩ := id xp.all4
  have HXP := Lib.hid xp
  clear xp
  have hR := Below.refl w2.heap.size w2
  have HBW := Lib.hid hbw
  clear hbw
  go_upto_region 16 with fail
  go_cut [9] (fun so wx => so = .int .i64 (m : Int) ∧ Below w2.heap.size w2 wx)
  case first =>
    go_region_with (go_at_call 15
                    refine (spec_partners _ _ HW.out).mono ?_
                    rintro e w1 ⟨A, c, rfl, hr, hb⟩
                    obtain ⟨g, rfl⟩ : ∃ g, A = some ⟨g, 0, none⟩ := by
                      rcases hr.2 with ⟨_, h1⟩ | ⟨g, cap, cur, hv, _⟩
                      · omega
                      · simp only [Value.slice.injEq] at hv
                        exact ⟨g, hv.1⟩
                    have hcell := nums_cell hr a (m : Int) Hp.out
                    have hd1 : Below w2.heap.size w2 w1 := by first | exact hR.drew.trans (hb.mono hR.drew.size) | exact hb
                    obtain ⟨g0, g1, g2, g3, gl⟩ := id (HXP.out.later hd1).all4)
    all_goals
      go_wp2_with fail
      go_meet
      exact ⟨rfl, hd1⟩
  case rest =>
    obtain ⟨rfl, hwc⟩ := hcut
    clear c0 c1 c2 c3 cl
    have hbw := HBW.out.trans (hwc.mono HBW.out.size)
    obtain ⟨c0, c1, c2, c3, cl⟩ := id (HXP.out.later hwc).all4
    go_wp2_with fail
    go_big_quiet (fail)
    have xr := HR.out.2.1.same (hbw.block _ hml)
    obtain ⟨r0, r1, r2, r3, rl⟩ := id xr.all4
    have q0 := xr.frozen 0
    have q1 := xr.frozen 1
    have q2 := xr.frozen 2
    have q3 := xr.frozen 3
    have Hf := Lib.hid hbw
    clear xr hbw
    go_upto_region 20 with fail
    go_region
    go_wp2
    have x4 := ((((HR.out.2.1.same ((below_drewN Hf.out (nq + 1)).block _ hml)).set 0 (.int .i64 1)).set 1 (.int .i64 a)).set 2 (.int .i64 0)).set 3 (.string p3)
    have f0 := x4.cell 0 _ rfl
    have f1 := x4.cell 1 _ rfl
    have f2 := x4.cell 2 _ rfl
    have f3 := x4.cell 3 _ rfl
    have hBf := ((((HR.out.1.trans ((below_drewN Hf.out (nq + 1)).mono HR.out.1.size)).setCell (p := ⟨w.heap.size + 1, 0, none⟩) (by simp) (.int .i64 1)).setCell (p := ⟨w.heap.size + 1, 1, none⟩) (by simp) (.int .i64 a)).setCell (p := ⟨w.heap.size + 1, 2, none⟩) (by simp) (.int .i64 0)).setCell (p := ⟨w.heap.size + 1, 3, none⟩) (by simp) (.string p3)
    exact bodyPost_ret (v := undV 1 a 0 p3 0) (by simp [results, Tryz.results6, go_sem, f0, f1, f2, f3, undV, EdA]) rfl ⟨rfl, hBf⟩
set_option maxHeartbeats 12800000 in
set_option maxRecDepth 100000 in
theorem spec_Undo_open (a t : Nat) (s u r : ByteArray) (w : World) (hs : s.size ≤ 1048576) (hu : u.size ≤ 1048576) (h : (wB s && edB 3 a t u) = true) (H : IsW s) (ha : a < s.size) (m : Nat) (hp : (prts (ksOf s.data.toList))[a]? = some (m : Int)) (hm : a < m) (hms : m < s.size)
    (hM : ∀ B w, Bx w B 25 (EdA 3 a t u) → Calls Tryz.prog 13 #[.string s, .pointer (some ⟨B, 0, none⟩)] w (TupPost (madV r 0) w)) :
    Calls Tryz.prog 6 #[.string s, .agg (EdA 3 a t u)] w (TupPost (undV 4 a ((m : Int) - 1) (bothW s a m) 0) w) := by
  have HG := Lib.hid (fun B W hx => spec_given (B := B) 3 a t s u W hs hu hx)
  simp only [h, if_true] at HG
  have HM := Lib.hid hM
  unfold madV at HM
  have HW := Lib.hid H
  have Hp := Lib.hid hp
  have h60 := H.1
  have hl1 := slice_at1 s a (by omega)
  have hl2 := slice_at1 s m (by omega)
  have hl3 := slice_upto s a m (by omega) (by omega)
  have z1 := ext_le s a (a + 1) h60
  have z2 := ext_le s m (m + 1) h60
  have z3 := ext_le s a (m + 1) h60
  have hix : (a : Int) < (s.size : Int) := by omega
  try unfold bothW
  generalize s.extract a (a + 1) = p1 at *
  generalize s.extract m (m + 1) = p2 at *
  generalize s.extract a (m + 1) = p3 at *
  clear H hp
  have hBr := ((Below.refl w.heap.size w).alloc (Nat.le_refl _) (.cells (EdA 3 a t u) 25)).alloc (by simp) (.cells #[.int .i64 0, .int .i64 0, .int .i64 0, .string ⟨#[]⟩] 25)
  have hres := Bx.new (w.alloc (.cells (EdA 3 a t u) 25)) 25 #[.int .i64 0, .int .i64 0, .int .i64 0, .string ⟨#[]⟩]
  have hpar := (Bx.new w 25 (EdA 3 a t u)).alloc (.cells #[.int .i64 0, .int .i64 0, .int .i64 0, .string ⟨#[]⟩] 25)
  rw [World.size_alloc] at hres
  obtain ⟨Wr, hWr⟩ : ∃ Wr, Wr = (w.alloc (.cells (EdA 3 a t u) 25)).alloc (.cells #[.int .i64 0, .int .i64 0, .int .i64 0, .string ⟨#[]⟩] 25) := ⟨_, rfl⟩
  rw [← hWr] at hBr hres hpar
  have HR := Lib.hid (And.intro hBr (And.intro hres hpar))
  have hml : w.heap.size + 1 < Wr.heap.size := hres.lt
  have HWr := Lib.hid hWr
  clear hBr hres hpar hWr
  clear h hM
  go_enter Tryz.func6, Tryz.ntmps6
  go_wp2_with fail
  rw [← HWr.out]
  refine (HG.out _ _ HR.out.2.2).mono ?_
  rintro e w1 ⟨rfl, hb1⟩
  have HB1 := Lib.hid hb1
  clear hb1
  go_wp2_with fail
  refine (HM.out _ _ (HR.out.2.2.later HB1.out)).mono ?_
  rintro e w2 ⟨rfl, hb2⟩
  have hbw := HB1.out.trans (hb2.mono HB1.out.size)
  clear hb2
  have xp := HR.out.2.2.later hbw
  obtain ⟨c0, c1, c2, c3, cl⟩ := id xp.all4
  have HXP := Lib.hid xp
  clear xp
  have hR := Below.refl w2.heap.size w2
  have HBW := Lib.hid hbw
  clear hbw
  go_upto_region 16 with fail
  go_cut [9] (fun so wx => so = .int .i64 (m : Int) ∧ Below w2.heap.size w2 wx)
  case first =>
    go_region_with (go_at_call 15
                    refine (spec_partners _ _ HW.out).mono ?_
                    rintro e w1 ⟨A, c, rfl, hr, hb⟩
                    obtain ⟨g, rfl⟩ : ∃ g, A = some ⟨g, 0, none⟩ := by
                      rcases hr.2 with ⟨_, h1⟩ | ⟨g, cap, cur, hv, _⟩
                      · omega
                      · simp only [Value.slice.injEq] at hv
                        exact ⟨g, hv.1⟩
                    have hcell := nums_cell hr a (m : Int) Hp.out
                    have hd1 : Below w2.heap.size w2 w1 := by first | exact hR.drew.trans (hb.mono hR.drew.size) | exact hb
                    obtain ⟨g0, g1, g2, g3, gl⟩ := id (HXP.out.later hd1).all4)
    all_goals
      go_wp2_with fail
      go_meet
      exact ⟨rfl, hd1⟩
  case rest =>
    obtain ⟨rfl, hwc⟩ := hcut
    clear c0 c1 c2 c3 cl
    have hbw := HBW.out.trans (hwc.mono HBW.out.size)
    obtain ⟨c0, c1, c2, c3, cl⟩ := id (HXP.out.later hwc).all4
    go_wp2_with fail
    go_big_quiet (fail)
    have xr := HR.out.2.1.same (hbw.block _ hml)
    obtain ⟨r0, r1, r2, r3, rl⟩ := id xr.all4
    have q0 := xr.frozen 0
    have q1 := xr.frozen 1
    have q2 := xr.frozen 2
    have q3 := xr.frozen 3
    have Hf := Lib.hid hbw
    clear xr hbw
    go_wp2
    have x4 := ((((HR.out.2.1.same ((below_drewN Hf.out nq).block _ hml)).set 0 (.int .i64 4)).set 1 (.int .i64 a)).set 2 (.int .i64 ((m : Int) - 1))).set 3 (.string (p1 ++ p2))
    have f0 := x4.cell 0 _ rfl
    have f1 := x4.cell 1 _ rfl
    have f2 := x4.cell 2 _ rfl
    have f3 := x4.cell 3 _ rfl
    have hBf := ((((HR.out.1.trans ((below_drewN Hf.out nq).mono HR.out.1.size)).setCell (p := ⟨w.heap.size + 1, 0, none⟩) (by simp) (.int .i64 4)).setCell (p := ⟨w.heap.size + 1, 1, none⟩) (by simp) (.int .i64 a)).setCell (p := ⟨w.heap.size + 1, 2, none⟩) (by simp) (.int .i64 ((m : Int) - 1))).setCell (p := ⟨w.heap.size + 1, 3, none⟩) (by simp) (.string (p1 ++ p2))
    exact bodyPost_ret (v := undV 4 a ((m : Int) - 1) (p1 ++ p2) 0) (by simp [results, Tryz.results6, go_sem, f0, f1, f2, f3, undV, EdA]) rfl ⟨rfl, hBf⟩
set_option maxHeartbeats 12800000 in
set_option maxRecDepth 100000 in
theorem spec_Undo_name (a t : Nat) (s u r : ByteArray) (w : World) (hs : s.size ≤ 1048576) (hu : u.size ≤ 1048576) (h : (wB s && edB 5 a t u) = true) (H : IsW s) (ha : a < s.size) (m : Nat) (hp : (prts (ksOf s.data.toList))[a]? = some (m : Int)) (hm : a < m) (hms : m < s.size)
    (hM : ∀ B w, Bx w B 25 (EdA 5 a t u) → Calls Tryz.prog 13 #[.string s, .pointer (some ⟨B, 0, none⟩)] w (TupPost (madV r 0) w)) :
    Calls Tryz.prog 6 #[.string s, .agg (EdA 5 a t u)] w (TupPost (undV 5 a 0 (bothW s a m) 0) w) := by
  have HG := Lib.hid (fun B W hx => spec_given (B := B) 5 a t s u W hs hu hx)
  simp only [h, if_true] at HG
  have HM := Lib.hid hM
  unfold madV at HM
  have HW := Lib.hid H
  have Hp := Lib.hid hp
  have h60 := H.1
  have hl1 := slice_at1 s a (by omega)
  have hl2 := slice_at1 s m (by omega)
  have hl3 := slice_upto s a m (by omega) (by omega)
  have z1 := ext_le s a (a + 1) h60
  have z2 := ext_le s m (m + 1) h60
  have z3 := ext_le s a (m + 1) h60
  have hix : (a : Int) < (s.size : Int) := by omega
  try unfold bothW
  generalize s.extract a (a + 1) = p1 at *
  generalize s.extract m (m + 1) = p2 at *
  generalize s.extract a (m + 1) = p3 at *
  clear H hp
  have hBr := ((Below.refl w.heap.size w).alloc (Nat.le_refl _) (.cells (EdA 5 a t u) 25)).alloc (by simp) (.cells #[.int .i64 0, .int .i64 0, .int .i64 0, .string ⟨#[]⟩] 25)
  have hres := Bx.new (w.alloc (.cells (EdA 5 a t u) 25)) 25 #[.int .i64 0, .int .i64 0, .int .i64 0, .string ⟨#[]⟩]
  have hpar := (Bx.new w 25 (EdA 5 a t u)).alloc (.cells #[.int .i64 0, .int .i64 0, .int .i64 0, .string ⟨#[]⟩] 25)
  rw [World.size_alloc] at hres
  obtain ⟨Wr, hWr⟩ : ∃ Wr, Wr = (w.alloc (.cells (EdA 5 a t u) 25)).alloc (.cells #[.int .i64 0, .int .i64 0, .int .i64 0, .string ⟨#[]⟩] 25) := ⟨_, rfl⟩
  rw [← hWr] at hBr hres hpar
  have HR := Lib.hid (And.intro hBr (And.intro hres hpar))
  have hml : w.heap.size + 1 < Wr.heap.size := hres.lt
  have HWr := Lib.hid hWr
  clear hBr hres hpar hWr
  clear h hM
  go_enter Tryz.func6, Tryz.ntmps6
  go_wp2_with fail
  rw [← HWr.out]
  refine (HG.out _ _ HR.out.2.2).mono ?_
  rintro e w1 ⟨rfl, hb1⟩
  have HB1 := Lib.hid hb1
  clear hb1
  go_wp2_with fail
  refine (HM.out _ _ (HR.out.2.2.later HB1.out)).mono ?_
  rintro e w2 ⟨rfl, hb2⟩
  have hbw := HB1.out.trans (hb2.mono HB1.out.size)
  clear hb2
  have xp := HR.out.2.2.later hbw
  obtain ⟨c0, c1, c2, c3, cl⟩ := id xp.all4
  have HXP := Lib.hid xp
  clear xp
  have hR := Below.refl w2.heap.size w2
  have HBW := Lib.hid hbw
  clear hbw
  go_upto_region 16 with fail
  go_cut [9] (fun so wx => so = .int .i64 (m : Int) ∧ Below w2.heap.size w2 wx)
  case first =>
    go_region_with (go_at_call 15
                    refine (spec_partners _ _ HW.out).mono ?_
                    rintro e w1 ⟨A, c, rfl, hr, hb⟩
                    obtain ⟨g, rfl⟩ : ∃ g, A = some ⟨g, 0, none⟩ := by
                      rcases hr.2 with ⟨_, h1⟩ | ⟨g, cap, cur, hv, _⟩
                      · omega
                      · simp only [Value.slice.injEq] at hv
                        exact ⟨g, hv.1⟩
                    have hcell := nums_cell hr a (m : Int) Hp.out
                    have hd1 : Below w2.heap.size w2 w1 := by first | exact hR.drew.trans (hb.mono hR.drew.size) | exact hb
                    obtain ⟨g0, g1, g2, g3, gl⟩ := id (HXP.out.later hd1).all4)
    all_goals
      go_wp2_with fail
      go_meet
      exact ⟨rfl, hd1⟩
  case rest =>
    obtain ⟨rfl, hwc⟩ := hcut
    clear c0 c1 c2 c3 cl
    have hbw := HBW.out.trans (hwc.mono HBW.out.size)
    obtain ⟨c0, c1, c2, c3, cl⟩ := id (HXP.out.later hwc).all4
    go_wp2_with fail
    go_big_quiet (fail)
    have xr := HR.out.2.1.same (hbw.block _ hml)
    obtain ⟨r0, r1, r2, r3, rl⟩ := id xr.all4
    have q0 := xr.frozen 0
    have q1 := xr.frozen 1
    have q2 := xr.frozen 2
    have q3 := xr.frozen 3
    have Hf := Lib.hid hbw
    clear xr hbw
    go_wp2
    have x4 := ((((HR.out.2.1.same ((below_drewN Hf.out nq).block _ hml)).set 0 (.int .i64 5)).set 1 (.int .i64 a)).set 2 (.int .i64 0)).set 3 (.string (p1 ++ p2))
    have f0 := x4.cell 0 _ rfl
    have f1 := x4.cell 1 _ rfl
    have f2 := x4.cell 2 _ rfl
    have f3 := x4.cell 3 _ rfl
    have hBf := ((((HR.out.1.trans ((below_drewN Hf.out nq).mono HR.out.1.size)).setCell (p := ⟨w.heap.size + 1, 0, none⟩) (by simp) (.int .i64 5)).setCell (p := ⟨w.heap.size + 1, 1, none⟩) (by simp) (.int .i64 a)).setCell (p := ⟨w.heap.size + 1, 2, none⟩) (by simp) (.int .i64 0)).setCell (p := ⟨w.heap.size + 1, 3, none⟩) (by simp) (.string (p1 ++ p2))
    exact bodyPost_ret (v := undV 5 a 0 (p1 ++ p2) 0) (by simp [results, Tryz.results6, go_sem, f0, f1, f2, f3, undV, EdA]) rfl ⟨rfl, hBf⟩
end Go.Proofs.YtblgjedjljfmcaaGreatDoor
/- FactorsOf of the model. -/
namespace Go.Proofs.YtblgjedjljfmcaaGreatDoor
open Go.RowKit
set_option linter.unusedVariables false

theorem txt_nil (w : World) : (w.alloc (.cells #[] 9)).ownsRow w.heap.size 9 1 (.slice (some ⟨w.heap.size, 0, none⟩) 0 0) 0 (strsV []) :=
  World.ownsRow_lit (base := w.heap.size) (e := 9) (size := 1) w #[] 0 (Nat.le_refl _) (by unfold maxLen; omega) rfl
end Go.Proofs.YtblgjedjljfmcaaGreatDoor
