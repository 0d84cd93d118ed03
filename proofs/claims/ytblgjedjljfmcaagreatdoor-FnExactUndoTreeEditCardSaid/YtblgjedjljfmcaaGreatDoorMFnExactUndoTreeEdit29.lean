import Derived.Test.YtblgjedjljfmcaaGreatDoorMFnExactUndoTreeEdit21
import Derived.Test.YtblgjedjljfmcaaGreatDoorMFnExactUndoTreeEdit24
import Derived.Test.YtblgjedjljfmcaaGreatDoorMFnExactUndoTreeEdit28
/- UndoTreeEdit of the program. -/
namespace Go.Proofs.YtblgjedjljfmcaaGreatDoor
open Go.RowKit
set_option linter.unusedVariables false

def unoV (k a t : Int) (u : ByteArray) (c : Int) : Value := .tuple #[.agg (EdA k a t u), errV c]
set_option maxHeartbeats 12800000 in
set_option maxRecDepth 100000 in
theorem impl_undone_wrap (a t : Int) (s u : ByteArray) (w : World) :
    Calls Tryz.prog 158 #[.agg (EdA 4 a t u), .string s] w (TupPost (unoV 3 a 0 ⟨#[]⟩ 0) w) := by
  have HX := Lib.hid (Bx.new (w.alloc (.cells (EdA 4 a t u) 67)) 25 (EdA 3 a 0 ⟨#[]⟩))
  have HB := Lib.hid (((Below.refl w.heap.size w).alloc (Nat.le_refl _) (.cells (EdA 4 a t u) 67)).alloc (by simp) (.cells (EdA 3 a 0 ⟨#[]⟩) 25))
  go_enter Tryz.func158, Tryz.ntmps158
  go_wp2
  have x4 := HX.out
  rw [World.size_alloc] at x4
  have f0 := x4.cell 0 _ rfl
  have f1 := x4.cell 1 _ rfl
  have f2 := x4.cell 2 _ rfl
  have f3 := x4.cell 3 _ rfl
  simp only [EdA] at f0 f1 f2 f3
  exact bodyPost_ret (v := unoV 3 a 0 ⟨#[]⟩ 0) (by simp [results, Tryz.results158, go_sem, f0, f1, f2, f3, unoV, EdA, errV]) rfl ⟨rfl, HB.out⟩
set_option maxHeartbeats 12800000 in
set_option maxRecDepth 100000 in
theorem impl_undone_put_empty (a t : Int) (s u : ByteArray) (he : u = ⟨#[]⟩) (hW : IsW u) (hm : mB u.data.toList = true) (w : World) :
    Calls Tryz.prog 142 #[.agg (EdA 1 a t u), .string s] w (TupPost (unoV 1 a 0 ⟨#[]⟩ 0) w) := by
  have hemp : (u.toList == []) = true := by subst he; rw [ByteArray.toList_eq]; rfl
  have HF := Lib.hid (fun W => impl_FactorsOf_yes u W hW hm)
  obtain ⟨n, hn⟩ : ∃ n, n = (facW u u.size).length := ⟨_, rfl⟩
  have HF2 : Hid (∀ W, Calls Tryz.prog 145 #[.string u] W (fun e w' => ∃ A c, e = .returned (.tuple #[.slice A n c, .int .i64 0]) ∧ Below W.heap.size W w')) := by rw [hn]; exact fun W => (HF.out W).mono fun e w' ⟨A, c, h1, _, h2⟩ => ⟨A, c, h1, h2⟩
  clear hn hW hm HF he
  have hBr := ((Below.refl w.heap.size w).alloc (Nat.le_refl _) (.cells (EdA 1 a t u) 64)).alloc (by simp) (.cells #[.int .i64 0, .int .i64 0, .int .i64 0, .string ⟨#[]⟩] 25)
  have hres := Bx.new (w.alloc (.cells (EdA 1 a t u) 64)) 25 #[.int .i64 0, .int .i64 0, .int .i64 0, .string ⟨#[]⟩]
  have hpar := (Bx.new w 64 (EdA 1 a t u)).alloc (.cells #[.int .i64 0, .int .i64 0, .int .i64 0, .string ⟨#[]⟩] 25)
  rw [World.size_alloc] at hres
  obtain ⟨Wr, hWr⟩ : ∃ Wr, Wr = (w.alloc (.cells (EdA 1 a t u) 64)).alloc (.cells #[.int .i64 0, .int .i64 0, .int .i64 0, .string ⟨#[]⟩] 25) := ⟨_, rfl⟩
  rw [← hWr] at hBr hres hpar
  have HR := Lib.hid (And.intro hBr (And.intro hres hpar))
  have hml : w.heap.size + 1 < Wr.heap.size := hres.lt
  have HWr := Lib.hid hWr
  clear hBr hres hpar hWr
  obtain ⟨c0, c1, c2, c3, cl⟩ := id HR.out.2.2.all4
  go_enter Tryz.func142, Tryz.ntmps142
  go_wp2_with fail
  rw [← HWr.out]
  refine (HF2.out _).mono ?_
  rintro e w1 ⟨A, cc, rfl, hb1⟩
  clear c0 c1 c2 c3 cl
  obtain ⟨c0, c1, c2, c3, cl⟩ := id (HR.out.2.2.later hb1).all4
  have hbw := hb1
  clear hb1
  have xr := HR.out.2.1.same (hbw.block _ hml)
  obtain ⟨r0, r1, r2, r3, rl⟩ := id xr.all4
  have q0 := xr.frozen 0
  have q1 := xr.frozen 1
  have q2 := xr.frozen 2
  have q3 := xr.frozen 3
  have Hf := Lib.hid hbw
  clear xr hbw
  go_wp2
  have x4 := ((((HR.out.2.1.same (Hf.out.block _ hml)).set 0 (.int .i64 1)).set 1 (.int .i64 a)).set 2 (.int .i64 0)).set 3 (.string ⟨#[]⟩)
  have f0 := x4.cell 0 _ rfl
  have f1 := x4.cell 1 _ rfl
  have f2 := x4.cell 2 _ rfl
  have f3 := x4.cell 3 _ rfl
  have hBf := ((((HR.out.1.trans (Hf.out.mono HR.out.1.size)).setCell (p := ⟨w.heap.size + 1, 0, none⟩) (by simp) (.int .i64 1)).setCell (p := ⟨w.heap.size + 1, 1, none⟩) (by simp) (.int .i64 a)).setCell (p := ⟨w.heap.size + 1, 2, none⟩) (by simp) (.int .i64 0)).setCell (p := ⟨w.heap.size + 1, 3, none⟩) (by simp) (.string ⟨#[]⟩)
  exact bodyPost_ret (v := unoV 1 a 0 ⟨#[]⟩ 0) (by simp [results, Tryz.results142, go_sem, f0, f1, f2, f3, unoV, EdA, errV]) rfl ⟨rfl, hBf⟩
set_option maxHeartbeats 12800000 in
set_option maxRecDepth 100000 in
theorem impl_undone_put_one_y (a t : Int) (s u : ByteArray) (he : ¬ u = ⟨#[]⟩) (h1 : u.size = 1) (hW : IsW u) (hm : mB u.data.toList = true) (hf : (facW u u.size).length = 1) (w : World) :
    Calls Tryz.prog 142 #[.agg (EdA 1 a t u), .string s] w (TupPost (unoV 0 0 0 ⟨#[]⟩ 4) w) := by
  have hne : (u.toList == []) = false := by
    have e : [] = (⟨#[]⟩ : ByteArray).toList := by rw [ByteArray.toList_eq]
    rw [e, ByteArray.toList_eq, ByteArray.toList_eq]
    refine beq_eq_false_iff_ne.2 fun e => he ?_
    obtain ⟨⟨l⟩⟩ := u
    simp at e
    rw [e]
  clear he
  have HF := Lib.hid (fun W => impl_FactorsOf_yes u W hW hm)
  obtain ⟨n, hn⟩ : ∃ n, n = (facW u u.size).length := ⟨_, rfl⟩
  have HF2 : Hid (∀ W, Calls Tryz.prog 145 #[.string u] W (fun e w' => ∃ A c, e = .returned (.tuple #[.slice A n c, .int .i64 0]) ∧ Below W.heap.size W w')) := by rw [hn]; exact fun W => (HF.out W).mono fun e w' ⟨A, c, h1, _, h2⟩ => ⟨A, c, h1, h2⟩
  have h1g : decide ((1 : Int) < (u.size : Int)) = false := decide_eq_false (by omega)
  have h1h : ¬ ((1 : Int) < (u.size : Int)) := by omega
  have h60 := hW.1
  rw [← hn] at hf
  have hni : ((n : Int) == 1) = true := by simp only [beq_iff_eq]; omega
  subst hf
  clear hn hW hm HF h1
  have hBr := ((Below.refl w.heap.size w).alloc (Nat.le_refl _) (.cells (EdA 1 a t u) 64)).alloc (by simp) (.cells #[.int .i64 0, .int .i64 0, .int .i64 0, .string ⟨#[]⟩] 25)
  have hres := Bx.new (w.alloc (.cells (EdA 1 a t u) 64)) 25 #[.int .i64 0, .int .i64 0, .int .i64 0, .string ⟨#[]⟩]
  have hpar := (Bx.new w 64 (EdA 1 a t u)).alloc (.cells #[.int .i64 0, .int .i64 0, .int .i64 0, .string ⟨#[]⟩] 25)
  rw [World.size_alloc] at hres
  obtain ⟨Wr, hWr⟩ : ∃ Wr, Wr = (w.alloc (.cells (EdA 1 a t u) 64)).alloc (.cells #[.int .i64 0, .int .i64 0, .int .i64 0, .string ⟨#[]⟩] 25) := ⟨_, rfl⟩
  rw [← hWr] at hBr hres hpar
  have HR := Lib.hid (And.intro hBr (And.intro hres hpar))
  have hml : w.heap.size + 1 < Wr.heap.size := hres.lt
  have HWr := Lib.hid hWr
  clear hBr hres hpar hWr
  obtain ⟨c0, c1, c2, c3, cl⟩ := id HR.out.2.2.all4
  go_enter Tryz.func142, Tryz.ntmps142
  go_wp2_with fail
  rw [← HWr.out]
  refine (HF2.out _).mono ?_
  rintro e w1 ⟨A, cc, rfl, hb1⟩
  clear c0 c1 c2 c3 cl
  obtain ⟨c0, c1, c2, c3, cl⟩ := id (HR.out.2.2.later hb1).all4
  have hbw := hb1
  clear hb1
  have xr := HR.out.2.1.same (hbw.block _ hml)
  obtain ⟨r0, r1, r2, r3, rl⟩ := id xr.all4
  have q0 := xr.frozen 0
  have q1 := xr.frozen 1
  have q2 := xr.frozen 2
  have q3 := xr.frozen 3
  have Hf := Lib.hid hbw
  clear xr hbw
  go_wp2
  have x4 := ((((HR.out.2.1.same (Hf.out.block _ hml)).set 0 (.int .i64 0)).set 1 (.int .i64 0)).set 2 (.int .i64 0)).set 3 (.string ⟨#[]⟩)
  have f0 := x4.cell 0 _ rfl
  have f1 := x4.cell 1 _ rfl
  have f2 := x4.cell 2 _ rfl
  have f3 := x4.cell 3 _ rfl
  have hBf := ((((HR.out.1.trans (Hf.out.mono HR.out.1.size)).setCell (p := ⟨w.heap.size + 1, 0, none⟩) (by simp) (.int .i64 0)).setCell (p := ⟨w.heap.size + 1, 1, none⟩) (by simp) (.int .i64 0)).setCell (p := ⟨w.heap.size + 1, 2, none⟩) (by simp) (.int .i64 0)).setCell (p := ⟨w.heap.size + 1, 3, none⟩) (by simp) (.string ⟨#[]⟩)
  exact bodyPost_ret (v := unoV 0 0 0 ⟨#[]⟩ 4) (by simp [results, Tryz.results142, go_sem, f0, f1, f2, f3, unoV, EdA, errV]) rfl ⟨rfl, hBf⟩
set_option maxHeartbeats 12800000 in
set_option maxRecDepth 100000 in
theorem impl_undone_put_one_n (a t : Int) (s u : ByteArray) (he : ¬ u = ⟨#[]⟩) (h1 : u.size = 1) (hW : IsW u) (hm : mB u.data.toList = true) (hf : (facW u u.size).length ≠ 1) (w : World) :
    Calls Tryz.prog 142 #[.agg (EdA 1 a t u), .string s] w (TupPost (unoV 0 0 0 ⟨#[]⟩ 4) w) := by
  have hne : (u.toList == []) = false := by
    have e : [] = (⟨#[]⟩ : ByteArray).toList := by rw [ByteArray.toList_eq]
    rw [e, ByteArray.toList_eq, ByteArray.toList_eq]
    refine beq_eq_false_iff_ne.2 fun e => he ?_
    obtain ⟨⟨l⟩⟩ := u
    simp at e
    rw [e]
  clear he
  have HF := Lib.hid (fun W => impl_FactorsOf_yes u W hW hm)
  obtain ⟨n, hn⟩ : ∃ n, n = (facW u u.size).length := ⟨_, rfl⟩
  have HF2 : Hid (∀ W, Calls Tryz.prog 145 #[.string u] W (fun e w' => ∃ A c, e = .returned (.tuple #[.slice A n c, .int .i64 0]) ∧ Below W.heap.size W w')) := by rw [hn]; exact fun W => (HF.out W).mono fun e w' ⟨A, c, h1, _, h2⟩ => ⟨A, c, h1, h2⟩
  have h1g : decide ((1 : Int) < (u.size : Int)) = false := decide_eq_false (by omega)
  have h1h : ¬ ((1 : Int) < (u.size : Int)) := by omega
  have h60 := hW.1
  rw [← hn] at hf
  have hni : ((n : Int) == 1) = false := by simp only [beq_eq_false_iff_ne]; omega
  have hnj : ¬ ((n : Int) = 1) := by omega
  clear hn hW hm HF h1
  have hBr := ((Below.refl w.heap.size w).alloc (Nat.le_refl _) (.cells (EdA 1 a t u) 64)).alloc (by simp) (.cells #[.int .i64 0, .int .i64 0, .int .i64 0, .string ⟨#[]⟩] 25)
  have hres := Bx.new (w.alloc (.cells (EdA 1 a t u) 64)) 25 #[.int .i64 0, .int .i64 0, .int .i64 0, .string ⟨#[]⟩]
  have hpar := (Bx.new w 64 (EdA 1 a t u)).alloc (.cells #[.int .i64 0, .int .i64 0, .int .i64 0, .string ⟨#[]⟩] 25)
  rw [World.size_alloc] at hres
  obtain ⟨Wr, hWr⟩ : ∃ Wr, Wr = (w.alloc (.cells (EdA 1 a t u) 64)).alloc (.cells #[.int .i64 0, .int .i64 0, .int .i64 0, .string ⟨#[]⟩] 25) := ⟨_, rfl⟩
  rw [← hWr] at hBr hres hpar
  have HR := Lib.hid (And.intro hBr (And.intro hres hpar))
  have hml : w.heap.size + 1 < Wr.heap.size := hres.lt
  have HWr := Lib.hid hWr
  clear hBr hres hpar hWr
  obtain ⟨c0, c1, c2, c3, cl⟩ := id HR.out.2.2.all4
  go_enter Tryz.func142, Tryz.ntmps142
  go_wp2_with fail
  rw [← HWr.out]
  refine (HF2.out _).mono ?_
  rintro e w1 ⟨A, cc, rfl, hb1⟩
  clear c0 c1 c2 c3 cl
  obtain ⟨c0, c1, c2, c3, cl⟩ := id (HR.out.2.2.later hb1).all4
  have hbw := hb1
  clear hb1
  have xr := HR.out.2.1.same (hbw.block _ hml)
  obtain ⟨r0, r1, r2, r3, rl⟩ := id xr.all4
  have q0 := xr.frozen 0
  have q1 := xr.frozen 1
  have q2 := xr.frozen 2
  have q3 := xr.frozen 3
  have Hf := Lib.hid hbw
  clear xr hbw
  go_wp2
  have x4 := ((((HR.out.2.1.same (Hf.out.block _ hml)).set 0 (.int .i64 0)).set 1 (.int .i64 0)).set 2 (.int .i64 0)).set 3 (.string ⟨#[]⟩)
  have f0 := x4.cell 0 _ rfl
  have f1 := x4.cell 1 _ rfl
  have f2 := x4.cell 2 _ rfl
  have f3 := x4.cell 3 _ rfl
  have hBf := ((((HR.out.1.trans (Hf.out.mono HR.out.1.size)).setCell (p := ⟨w.heap.size + 1, 0, none⟩) (by simp) (.int .i64 0)).setCell (p := ⟨w.heap.size + 1, 1, none⟩) (by simp) (.int .i64 0)).setCell (p := ⟨w.heap.size + 1, 2, none⟩) (by simp) (.int .i64 0)).setCell (p := ⟨w.heap.size + 1, 3, none⟩) (by simp) (.string ⟨#[]⟩)
  exact bodyPost_ret (v := unoV 0 0 0 ⟨#[]⟩ 4) (by simp [results, Tryz.results142, go_sem, f0, f1, f2, f3, unoV, EdA, errV]) rfl ⟨rfl, hBf⟩
set_option maxHeartbeats 12800000 in
set_option maxRecDepth 100000 in
theorem impl_undone_put_many (a t : Int) (s u : ByteArray) (he : ¬ u = ⟨#[]⟩) (h1 : 1 < u.size) (hW : IsW u) (hm : mB u.data.toList = true) (hf : (facW u u.size).length ≠ 1) (w : World) :
    Calls Tryz.prog 142 #[.agg (EdA 1 a t u), .string s] w (TupPost (unoV 0 0 0 ⟨#[]⟩ 4) w) := by
  have hne : (u.toList == []) = false := by
    have e : [] = (⟨#[]⟩ : ByteArray).toList := by rw [ByteArray.toList_eq]
    rw [e, ByteArray.toList_eq, ByteArray.toList_eq]
    refine beq_eq_false_iff_ne.2 fun e => he ?_
    obtain ⟨⟨l⟩⟩ := u
    simp at e
    rw [e]
  clear he
  have HF := Lib.hid (fun W => impl_FactorsOf_yes u W hW hm)
  obtain ⟨n, hn⟩ : ∃ n, n = (facW u u.size).length := ⟨_, rfl⟩
  have HF2 : Hid (∀ W, Calls Tryz.prog 145 #[.string u] W (fun e w' => ∃ A c, e = .returned (.tuple #[.slice A n c, .int .i64 0]) ∧ Below W.heap.size W w')) := by rw [hn]; exact fun W => (HF.out W).mono fun e w' ⟨A, c, h1, _, h2⟩ => ⟨A, c, h1, h2⟩
  have h1g : decide ((1 : Int) < (u.size : Int)) = true := decide_eq_true (by omega)
  have h1h : (1 : Int) < (u.size : Int) := by omega
  have h60 := hW.1
  rw [← hn] at hf
  have hni : ((n : Int) == 1) = false := by simp only [beq_eq_false_iff_ne]; omega
  have hnj : ¬ ((n : Int) = 1) := by omega
  clear hn hW hm HF h1
  have hBr := ((Below.refl w.heap.size w).alloc (Nat.le_refl _) (.cells (EdA 1 a t u) 64)).alloc (by simp) (.cells #[.int .i64 0, .int .i64 0, .int .i64 0, .string ⟨#[]⟩] 25)
  have hres := Bx.new (w.alloc (.cells (EdA 1 a t u) 64)) 25 #[.int .i64 0, .int .i64 0, .int .i64 0, .string ⟨#[]⟩]
  have hpar := (Bx.new w 64 (EdA 1 a t u)).alloc (.cells #[.int .i64 0, .int .i64 0, .int .i64 0, .string ⟨#[]⟩] 25)
  rw [World.size_alloc] at hres
  obtain ⟨Wr, hWr⟩ : ∃ Wr, Wr = (w.alloc (.cells (EdA 1 a t u) 64)).alloc (.cells #[.int .i64 0, .int .i64 0, .int .i64 0, .string ⟨#[]⟩] 25) := ⟨_, rfl⟩
  rw [← hWr] at hBr hres hpar
  have HR := Lib.hid (And.intro hBr (And.intro hres hpar))
  have hml : w.heap.size + 1 < Wr.heap.size := hres.lt
  have HWr := Lib.hid hWr
  clear hBr hres hpar hWr
  obtain ⟨c0, c1, c2, c3, cl⟩ := id HR.out.2.2.all4
  go_enter Tryz.func142, Tryz.ntmps142
  go_wp2_with fail
  rw [← HWr.out]
  refine (HF2.out _).mono ?_
  rintro e w1 ⟨A, cc, rfl, hb1⟩
  clear c0 c1 c2 c3 cl
  obtain ⟨c0, c1, c2, c3, cl⟩ := id (HR.out.2.2.later hb1).all4
  have hbw := hb1
  clear hb1
  have xr := HR.out.2.1.same (hbw.block _ hml)
  obtain ⟨r0, r1, r2, r3, rl⟩ := id xr.all4
  have q0 := xr.frozen 0
  have q1 := xr.frozen 1
  have q2 := xr.frozen 2
  have q3 := xr.frozen 3
  have Hf := Lib.hid hbw
  clear xr hbw
  go_wp2
  have x4 := ((((HR.out.2.1.same (Hf.out.block _ hml)).set 0 (.int .i64 0)).set 1 (.int .i64 0)).set 2 (.int .i64 0)).set 3 (.string ⟨#[]⟩)
  have f0 := x4.cell 0 _ rfl
  have f1 := x4.cell 1 _ rfl
  have f2 := x4.cell 2 _ rfl
  have f3 := x4.cell 3 _ rfl
  have hBf := ((((HR.out.1.trans (Hf.out.mono HR.out.1.size)).setCell (p := ⟨w.heap.size + 1, 0, none⟩) (by simp) (.int .i64 0)).setCell (p := ⟨w.heap.size + 1, 1, none⟩) (by simp) (.int .i64 0)).setCell (p := ⟨w.heap.size + 1, 2, none⟩) (by simp) (.int .i64 0)).setCell (p := ⟨w.heap.size + 1, 3, none⟩) (by simp) (.string ⟨#[]⟩)
  exact bodyPost_ret (v := unoV 0 0 0 ⟨#[]⟩ 4) (by simp [results, Tryz.results142, go_sem, f0, f1, f2, f3, unoV, EdA, errV]) rfl ⟨rfl, hBf⟩
set_option maxHeartbeats 12800000 in
set_option maxRecDepth 100000 in
theorem impl_undone_put_factor (a t : Int) (s u : ByteArray) (he : ¬ u = ⟨#[]⟩) (h1 : 1 < u.size) (hW : IsW u) (hm : mB u.data.toList = true) (hf : (facW u u.size).length = 1) (w : World) :
    Calls Tryz.prog 142 #[.agg (EdA 1 a t u), .string s] w (TupPost (unoV 2 a 0 ⟨#[]⟩ 0) w) := by
  have hne : (u.toList == []) = false := by
    have e : [] = (⟨#[]⟩ : ByteArray).toList := by rw [ByteArray.toList_eq]
    rw [e, ByteArray.toList_eq, ByteArray.toList_eq]
    refine beq_eq_false_iff_ne.2 fun e => he ?_
    obtain ⟨⟨l⟩⟩ := u
    simp at e
    rw [e]
  clear he
  have HF := Lib.hid (fun W => impl_FactorsOf_yes u W hW hm)
  obtain ⟨n, hn⟩ : ∃ n, n = (facW u u.size).length := ⟨_, rfl⟩
  have HF2 : Hid (∀ W, Calls Tryz.prog 145 #[.string u] W (fun e w' => ∃ A c, e = .returned (.tuple #[.slice A n c, .int .i64 0]) ∧ Below W.heap.size W w')) := by rw [hn]; exact fun W => (HF.out W).mono fun e w' ⟨A, c, h1, _, h2⟩ => ⟨A, c, h1, h2⟩
  have h1g : decide ((1 : Int) < (u.size : Int)) = true := decide_eq_true (by omega)
  have h1h : (1 : Int) < (u.size : Int) := by omega
  have h60 := hW.1
  rw [← hn] at hf
  subst hf
  clear hn hW hm HF h1
  have hBr := ((Below.refl w.heap.size w).alloc (Nat.le_refl _) (.cells (EdA 1 a t u) 64)).alloc (by simp) (.cells #[.int .i64 0, .int .i64 0, .int .i64 0, .string ⟨#[]⟩] 25)
  have hres := Bx.new (w.alloc (.cells (EdA 1 a t u) 64)) 25 #[.int .i64 0, .int .i64 0, .int .i64 0, .string ⟨#[]⟩]
  have hpar := (Bx.new w 64 (EdA 1 a t u)).alloc (.cells #[.int .i64 0, .int .i64 0, .int .i64 0, .string ⟨#[]⟩] 25)
  rw [World.size_alloc] at hres
  obtain ⟨Wr, hWr⟩ : ∃ Wr, Wr = (w.alloc (.cells (EdA 1 a t u) 64)).alloc (.cells #[.int .i64 0, .int .i64 0, .int .i64 0, .string ⟨#[]⟩] 25) := ⟨_, rfl⟩
  rw [← hWr] at hBr hres hpar
  have HR := Lib.hid (And.intro hBr (And.intro hres hpar))
  have hml : w.heap.size + 1 < Wr.heap.size := hres.lt
  have HWr := Lib.hid hWr
  clear hBr hres hpar hWr
  obtain ⟨c0, c1, c2, c3, cl⟩ := id HR.out.2.2.all4
  go_enter Tryz.func142, Tryz.ntmps142
  go_wp2_with fail
  rw [← HWr.out]
  refine (HF2.out _).mono ?_
  rintro e w1 ⟨A, cc, rfl, hb1⟩
  clear c0 c1 c2 c3 cl
  obtain ⟨c0, c1, c2, c3, cl⟩ := id (HR.out.2.2.later hb1).all4
  have hbw := hb1
  clear hb1
  have xr := HR.out.2.1.same (hbw.block _ hml)
  obtain ⟨r0, r1, r2, r3, rl⟩ := id xr.all4
  have q0 := xr.frozen 0
  have q1 := xr.frozen 1
  have q2 := xr.frozen 2
  have q3 := xr.frozen 3
  have Hf := Lib.hid hbw
  clear xr hbw
  go_wp2
  have x4 := ((((HR.out.2.1.same (Hf.out.block _ hml)).set 0 (.int .i64 2)).set 1 (.int .i64 a)).set 2 (.int .i64 0)).set 3 (.string ⟨#[]⟩)
  have f0 := x4.cell 0 _ rfl
  have f1 := x4.cell 1 _ rfl
  have f2 := x4.cell 2 _ rfl
  have f3 := x4.cell 3 _ rfl
  have hBf := ((((HR.out.1.trans (Hf.out.mono HR.out.1.size)).setCell (p := ⟨w.heap.size + 1, 0, none⟩) (by simp) (.int .i64 2)).setCell (p := ⟨w.heap.size + 1, 1, none⟩) (by simp) (.int .i64 a)).setCell (p := ⟨w.heap.size + 1, 2, none⟩) (by simp) (.int .i64 0)).setCell (p := ⟨w.heap.size + 1, 3, none⟩) (by simp) (.string ⟨#[]⟩)
  exact bodyPost_ret (v := unoV 2 a 0 ⟨#[]⟩ 0) (by simp [results, Tryz.results142, go_sem, f0, f1, f2, f3, unoV, EdA, errV]) rfl ⟨rfl, hBf⟩
set_option maxHeartbeats 12800000 in
set_option maxRecDepth 100000 in
theorem impl_bracketsAt' (a : Nat) (s : ByteArray) (H : IsW s) (ha : a < s.size) (m : Nat) (hp : (prts (ksOf s.data.toList))[a]? = some (m : Int)) (hm : a < m) (hms : m < s.size) (hc : callB (s[a].toNat : Int) = true) (w : World) :
    Calls Tryz.prog 156 #[.string s, .int .i64 (a : Int)] w (TupPost (.tuple #[.int .i64 (m : Int), .string (bothW s a m)]) w) := by
  have HC := Lib.hid (fun W => impl_closed_yes s W H a (m : Int) ha hp hc (by omega))
  unfold cloV at HC
  have h60 := H.1
  have hl1 := slice_at1 s a (by omega)
  have hl2 := slice_at1 s m (by omega)
  have hl3 := slice_upto s a m (by omega) (by omega)
  have z1 := ext_le s a (a + 1) h60
  have z2 := ext_le s m (m + 1) h60
  have z3 := ext_le s a (m + 1) h60
  try unfold bothW
  generalize s.extract a (a + 1) = p1 at *
  generalize s.extract m (m + 1) = p2 at *
  generalize s.extract a (m + 1) = p3 at *
  clear H hp hc
  go_enter Tryz.func156, Tryz.ntmps156
  go_wp2_with fail
  refine (HC.out _).mono ?_
  rintro e w1 ⟨rfl, hb1⟩
  go_wp2_with fail
  go_big_quiet (fail)
  go_wp2
  go_ret2
  exact ⟨rfl, below_drewN hb1 _⟩
set_option maxHeartbeats 12800000 in
set_option maxRecDepth 100000 in
theorem impl_undone_cut (a t : Nat) (s u : ByteArray) (H : IsW s) (ha : a < s.size) (m : Nat) (hp : (prts (ksOf s.data.toList))[a]? = some (m : Int)) (hm : a < m) (hms : m < s.size) (hc : callB (s[a].toNat : Int) = true) (w : World) :
    Calls Tryz.prog 150 #[.agg (EdA 2 a t u), .string s] w (TupPost (unoV 1 a 0 (s.extract a (m + 1)) 0) w) := by
  have HC := Lib.hid (fun W => impl_closed_yes s W H a (m : Int) ha hp hc (by omega))
  unfold cloV at HC
  have h60 := H.1
  have hl1 := slice_at1 s a (by omega)
  have hl2 := slice_at1 s m (by omega)
  have hl3 := slice_upto s a m (by omega) (by omega)
  have z1 := ext_le s a (a + 1) h60
  have z2 := ext_le s m (m + 1) h60
  have z3 := ext_le s a (m + 1) h60
  try unfold bothW
  generalize s.extract a (a + 1) = p1 at *
  generalize s.extract m (m + 1) = p2 at *
  generalize s.extract a (m + 1) = p3 at *
  clear H hp hc
  have hBr := ((Below.refl w.heap.size w).alloc (Nat.le_refl _) (.cells (EdA 2 a t u) 65)).alloc (by simp) (.cells #[.int .i64 0, .int .i64 0, .int .i64 0, .string ⟨#[]⟩] 25)
  have hres := Bx.new (w.alloc (.cells (EdA 2 a t u) 65)) 25 #[.int .i64 0, .int .i64 0, .int .i64 0, .string ⟨#[]⟩]
  have hpar := (Bx.new w 65 (EdA 2 a t u)).alloc (.cells #[.int .i64 0, .int .i64 0, .int .i64 0, .string ⟨#[]⟩] 25)
  rw [World.size_alloc] at hres
  obtain ⟨Wr, hWr⟩ : ∃ Wr, Wr = (w.alloc (.cells (EdA 2 a t u) 65)).alloc (.cells #[.int .i64 0, .int .i64 0, .int .i64 0, .string ⟨#[]⟩] 25) := ⟨_, rfl⟩
  rw [← hWr] at hBr hres hpar
  have HR := Lib.hid (And.intro hBr (And.intro hres hpar))
  have hml : w.heap.size + 1 < Wr.heap.size := hres.lt
  have HWr := Lib.hid hWr
  clear hBr hres hpar hWr
  obtain ⟨c0, c1, c2, c3, cl⟩ := id HR.out.2.2.all4
  go_enter Tryz.func150, Tryz.ntmps150
  go_wp2_with fail
  rw [← HWr.out]
  refine (HC.out _).mono ?_
  rintro e w1 ⟨rfl, hb1⟩
  clear c0 c1 c2 c3 cl
  obtain ⟨c0, c1, c2, c3, cl⟩ := id (HR.out.2.2.later hb1).all4
  have hbw := hb1
  clear hb1
  have xr := HR.out.2.1.same (hbw.block _ hml)
  obtain ⟨r0, r1, r2, r3, rl⟩ := id xr.all4
  have q0 := xr.frozen 0
  have q1 := xr.frozen 1
  have q2 := xr.frozen 2
  have q3 := xr.frozen 3
  have Hf := Lib.hid hbw
  clear xr hbw
  go_upto_region 2 with fail
  go_region
  go_wp2
  have x4 := ((((HR.out.2.1.same (Hf.out.block _ hml)).set 0 (.int .i64 1)).set 1 (.int .i64 a)).set 2 (.int .i64 0)).set 3 (.string p3)
  have f0 := x4.cell 0 _ rfl
  have f1 := x4.cell 1 _ rfl
  have f2 := x4.cell 2 _ rfl
  have f3 := x4.cell 3 _ rfl
  have hBf := ((((HR.out.1.trans (Hf.out.drew.mono HR.out.1.size)).setCell (p := ⟨w.heap.size + 1, 0, none⟩) (by simp) (.int .i64 1)).setCell (p := ⟨w.heap.size + 1, 1, none⟩) (by simp) (.int .i64 a)).setCell (p := ⟨w.heap.size + 1, 2, none⟩) (by simp) (.int .i64 0)).setCell (p := ⟨w.heap.size + 1, 3, none⟩) (by simp) (.string p3)
  exact bodyPost_ret (v := unoV 1 a 0 p3 0) (by simp [results, Tryz.results150, go_sem, f0, f1, f2, f3, unoV, EdA, errV]) rfl ⟨rfl, hBf⟩
set_option maxHeartbeats 12800000 in
set_option maxRecDepth 100000 in
theorem impl_undone_open (a t : Nat) (s u : ByteArray) (H : IsW s) (ha : a < s.size) (m : Nat) (hp : (prts (ksOf s.data.toList))[a]? = some (m : Int)) (hm : a < m) (hms : m < s.size) (hc : callB (s[a].toNat : Int) = true) (w : World) :
    Calls Tryz.prog 154 #[.agg (EdA 3 a t u), .string s] w (TupPost (unoV 4 a ((m : Int) - 1) (bothW s a m) 0) w) := by
  have HC := Lib.hid (fun W => impl_bracketsAt' a s H ha m hp hm hms hc W)
  have h60 := H.1
  have zb : (bothW s a m).size ≤ 60 := by unfold bothW; rw [ByteArray.size_append, ByteArray.size_extract, ByteArray.size_extract]; omega
  generalize bothW s a m = p at *
  clear H hp hc
  have hBr := ((Below.refl w.heap.size w).alloc (Nat.le_refl _) (.cells (EdA 3 a t u) 66)).alloc (by simp) (.cells #[.int .i64 0, .int .i64 0, .int .i64 0, .string ⟨#[]⟩] 25)
  have hres := Bx.new (w.alloc (.cells (EdA 3 a t u) 66)) 25 #[.int .i64 0, .int .i64 0, .int .i64 0, .string ⟨#[]⟩]
  have hpar := (Bx.new w 66 (EdA 3 a t u)).alloc (.cells #[.int .i64 0, .int .i64 0, .int .i64 0, .string ⟨#[]⟩] 25)
  rw [World.size_alloc] at hres
  obtain ⟨Wr, hWr⟩ : ∃ Wr, Wr = (w.alloc (.cells (EdA 3 a t u) 66)).alloc (.cells #[.int .i64 0, .int .i64 0, .int .i64 0, .string ⟨#[]⟩] 25) := ⟨_, rfl⟩
  rw [← hWr] at hBr hres hpar
  have HR := Lib.hid (And.intro hBr (And.intro hres hpar))
  have hml : w.heap.size + 1 < Wr.heap.size := hres.lt
  have HWr := Lib.hid hWr
  clear hBr hres hpar hWr
  obtain ⟨c0, c1, c2, c3, cl⟩ := id HR.out.2.2.all4
  go_enter Tryz.func154, Tryz.ntmps154
  go_wp2_with fail
  rw [← HWr.out]
  refine (HC.out _).mono ?_
  rintro e w1 ⟨rfl, hb1⟩
  clear c0 c1 c2 c3 cl
  obtain ⟨c0, c1, c2, c3, cl⟩ := id (HR.out.2.2.later hb1).all4
  have hbw := hb1
  clear hb1
  have xr := HR.out.2.1.same (hbw.block _ hml)
  obtain ⟨r0, r1, r2, r3, rl⟩ := id xr.all4
  have q0 := xr.frozen 0
  have q1 := xr.frozen 1
  have q2 := xr.frozen 2
  have q3 := xr.frozen 3
  have Hf := Lib.hid hbw
  clear xr hbw
  go_wp2
  have x4 := ((((HR.out.2.1.same (Hf.out.block _ hml)).set 0 (.int .i64 4)).set 1 (.int .i64 a)).set 2 (.int .i64 ((m : Int) - 1))).set 3 (.string p)
  have f0 := x4.cell 0 _ rfl
  have f1 := x4.cell 1 _ rfl
  have f2 := x4.cell 2 _ rfl
  have f3 := x4.cell 3 _ rfl
  have hBf := ((((HR.out.1.trans (Hf.out.mono HR.out.1.size)).setCell (p := ⟨w.heap.size + 1, 0, none⟩) (by simp) (.int .i64 4)).setCell (p := ⟨w.heap.size + 1, 1, none⟩) (by simp) (.int .i64 a)).setCell (p := ⟨w.heap.size + 1, 2, none⟩) (by simp) (.int .i64 ((m : Int) - 1))).setCell (p := ⟨w.heap.size + 1, 3, none⟩) (by simp) (.string p)
  exact bodyPost_ret (v := unoV 4 a ((m : Int) - 1) p 0) (by simp [results, Tryz.results154, go_sem, f0, f1, f2, f3, unoV, EdA, errV]) rfl ⟨rfl, hBf⟩
set_option maxHeartbeats 12800000 in
set_option maxRecDepth 100000 in
theorem impl_undone_name (a t : Nat) (s u : ByteArray) (H : IsW s) (ha : a < s.size) (m : Nat) (hp : (prts (ksOf s.data.toList))[a]? = some (m : Int)) (hm : a < m) (hms : m < s.size) (hc : callB (s[a].toNat : Int) = true) (w : World) :
    Calls Tryz.prog 160 #[.agg (EdA 5 a t u), .string s] w (TupPost (unoV 5 a 0 (bothW s a m) 0) w) := by
  have HC := Lib.hid (fun W => impl_bracketsAt' a s H ha m hp hm hms hc W)
  have h60 := H.1
  have zb : (bothW s a m).size ≤ 60 := by unfold bothW; rw [ByteArray.size_append, ByteArray.size_extract, ByteArray.size_extract]; omega
  generalize bothW s a m = p at *
  clear H hp hc
  have hBr := ((Below.refl w.heap.size w).alloc (Nat.le_refl _) (.cells (EdA 5 a t u) 68)).alloc (by simp) (.cells #[.int .i64 0, .int .i64 0, .int .i64 0, .string ⟨#[]⟩] 25)
  have hres := Bx.new (w.alloc (.cells (EdA 5 a t u) 68)) 25 #[.int .i64 0, .int .i64 0, .int .i64 0, .string ⟨#[]⟩]
  have hpar := (Bx.new w 68 (EdA 5 a t u)).alloc (.cells #[.int .i64 0, .int .i64 0, .int .i64 0, .string ⟨#[]⟩] 25)
  rw [World.size_alloc] at hres
  obtain ⟨Wr, hWr⟩ : ∃ Wr, Wr = (w.alloc (.cells (EdA 5 a t u) 68)).alloc (.cells #[.int .i64 0, .int .i64 0, .int .i64 0, .string ⟨#[]⟩] 25) := ⟨_, rfl⟩
  rw [← hWr] at hBr hres hpar
  have HR := Lib.hid (And.intro hBr (And.intro hres hpar))
  have hml : w.heap.size + 1 < Wr.heap.size := hres.lt
  have HWr := Lib.hid hWr
  clear hBr hres hpar hWr
  obtain ⟨c0, c1, c2, c3, cl⟩ := id HR.out.2.2.all4
  go_enter Tryz.func160, Tryz.ntmps160
  go_wp2_with fail
  rw [← HWr.out]
  refine (HC.out _).mono ?_
  rintro e w1 ⟨rfl, hb1⟩
  clear c0 c1 c2 c3 cl
  obtain ⟨c0, c1, c2, c3, cl⟩ := id (HR.out.2.2.later hb1).all4
  have hbw := hb1
  clear hb1
  have xr := HR.out.2.1.same (hbw.block _ hml)
  obtain ⟨r0, r1, r2, r3, rl⟩ := id xr.all4
  have q0 := xr.frozen 0
  have q1 := xr.frozen 1
  have q2 := xr.frozen 2
  have q3 := xr.frozen 3
  have Hf := Lib.hid hbw
  clear xr hbw
  go_wp2
  have x4 := ((((HR.out.2.1.same (Hf.out.block _ hml)).set 0 (.int .i64 5)).set 1 (.int .i64 a)).set 2 (.int .i64 0)).set 3 (.string p)
  have f0 := x4.cell 0 _ rfl
  have f1 := x4.cell 1 _ rfl
  have f2 := x4.cell 2 _ rfl
  have f3 := x4.cell 3 _ rfl
  have hBf := ((((HR.out.1.trans (Hf.out.mono HR.out.1.size)).setCell (p := ⟨w.heap.size + 1, 0, none⟩) (by simp) (.int .i64 5)).setCell (p := ⟨w.heap.size + 1, 1, none⟩) (by simp) (.int .i64 a)).setCell (p := ⟨w.heap.size + 1, 2, none⟩) (by simp) (.int .i64 0)).setCell (p := ⟨w.heap.size + 1, 3, none⟩) (by simp) (.string p)
  exact bodyPost_ret (v := unoV 5 a 0 p 0) (by simp [results, Tryz.results160, go_sem, f0, f1, f2, f3, unoV, EdA, errV]) rfl ⟨rfl, hBf⟩
set_option maxHeartbeats 12800000 in
set_option maxRecDepth 100000 in
theorem impl_Undo_bad (k a t : Int) (s u r : ByteArray) (c : Int) (w : World) (hg : w.cell? ⟨0, 0, none⟩ = some (.iface 124 (.agg #[.pointer (some ⟨7, 43, none⟩)]))) (hc : c ≠ 0)
    (hE : ∀ w : World, w.cell? ⟨0, 0, none⟩ = some (.iface 124 (.agg #[.pointer (some ⟨7, 43, none⟩)])) → Calls Tryz.prog 16 #[.string s, .agg (EdA k a t u)] w (TupPost (madV r c) w)) :
    Calls Tryz.prog 8 #[.string s, .agg (EdA k a t u)] w (TupPost (undV 0 0 0 ⟨#[]⟩ c) w) := by
  have hcd : (c != 0) = true := by simpa using hc
  have hcb : (c == 0) = false := by simpa using hc
  have HE := Lib.hid hE
  unfold madV at HE
  clear hE
  have hBr := ((Below.refl w.heap.size w).alloc (Nat.le_refl _) (.cells (EdA k a t u) 25)).alloc (by simp) (.cells #[.int .i64 0, .int .i64 0, .int .i64 0, .string ⟨#[]⟩] 25)
  have hres := Bx.new (w.alloc (.cells (EdA k a t u) 25)) 25 #[.int .i64 0, .int .i64 0, .int .i64 0, .string ⟨#[]⟩]
  have hpar := (Bx.new w 25 (EdA k a t u)).alloc (.cells #[.int .i64 0, .int .i64 0, .int .i64 0, .string ⟨#[]⟩] 25)
  rw [World.size_alloc] at hres
  obtain ⟨Wr, hWr⟩ : ∃ Wr, Wr = (w.alloc (.cells (EdA k a t u) 25)).alloc (.cells #[.int .i64 0, .int .i64 0, .int .i64 0, .string ⟨#[]⟩] 25) := ⟨_, rfl⟩
  rw [← hWr] at hBr hres hpar
  have HR := Lib.hid (And.intro hBr (And.intro hres hpar))
  have hml : w.heap.size + 1 < Wr.heap.size := hres.lt
  have HWr := Lib.hid hWr
  clear hBr hres hpar hWr
  obtain ⟨c0, c1, c2, c3, cl⟩ := id HR.out.2.2.all4
  have Hg := Lib.hid (And.intro hg (World.block_lt_of_cell? _ _ hg))
  clear hg
  go_enter Tryz.func8, Tryz.ntmps8
  go_wp2_with fail
  rw [← HWr.out]
  refine (HE.out _ ((HR.out.1.cell (p := ⟨0, 0, none⟩) Hg.out.2).trans Hg.out.1)).mono ?_
  rintro e w1 ⟨rfl, hb1⟩
  clear c0 c1 c2 c3 cl
  have hbw := hb1
  clear hb1
  have xr := HR.out.2.1.same (hbw.block _ hml)
  obtain ⟨r0, r1, r2, r3, rl⟩ := id xr.all4
  have q0 := xr.frozen 0
  have q1 := xr.frozen 1
  have q2 := xr.frozen 2
  have q3 := xr.frozen 3
  have Hf := Lib.hid hbw
  clear xr hbw
  go_wp2
  have x4 := ((((HR.out.2.1.same (Hf.out.block _ hml)).set 0 (.int .i64 0)).set 1 (.int .i64 0)).set 2 (.int .i64 0)).set 3 (.string ⟨#[]⟩)
  have f0 := x4.cell 0 _ rfl
  have f1 := x4.cell 1 _ rfl
  have f2 := x4.cell 2 _ rfl
  have f3 := x4.cell 3 _ rfl
  have hBf := ((((HR.out.1.trans (Hf.out.mono HR.out.1.size)).setCell (p := ⟨w.heap.size + 1, 0, none⟩) (by simp) (.int .i64 0)).setCell (p := ⟨w.heap.size + 1, 1, none⟩) (by simp) (.int .i64 0)).setCell (p := ⟨w.heap.size + 1, 2, none⟩) (by simp) (.int .i64 0)).setCell (p := ⟨w.heap.size + 1, 3, none⟩) (by simp) (.string ⟨#[]⟩)
  exact bodyPost_ret (v := undV 0 0 0 ⟨#[]⟩ c) (by simp [results, Tryz.results8, go_sem, f0, f1, f2, f3, undV, EdA]) rfl ⟨rfl, hBf⟩
set_option maxHeartbeats 12800000 in
set_option maxRecDepth 100000 in
theorem impl_Undo_1 (a t : Int) (s u r : ByteArray) (k' a' t' : Int) (u' : ByteArray) (c' : Int) (w : World) (hg : w.cell? ⟨0, 0, none⟩ = some (.iface 124 (.agg #[.pointer (some ⟨7, 43, none⟩)])))
    (hE : ∀ w : World, w.cell? ⟨0, 0, none⟩ = some (.iface 124 (.agg #[.pointer (some ⟨7, 43, none⟩)])) → Calls Tryz.prog 16 #[.string s, .agg (EdA 1 a t u)] w (TupPost (madV r 0) w))
    (hU : ∀ w, Calls Tryz.prog 142 #[.agg (EdA 1 a t u), .string s] w (TupPost (unoV k' a' t' u' c') w)) :
    Calls Tryz.prog 8 #[.string s, .agg (EdA 1 a t u)] w (TupPost (undV k' a' t' u' c') w) := by
  have HE := Lib.hid hE
  have HU := Lib.hid hU
  have HO := Lib.hid (fun W => impl_editOf1 a t u W)
  have HC := Lib.hid (fun W hg => impl_codeOf c' W hg)
  unfold madV at HE
  unfold unoV at HU
  generalize errV c' = E at *
  clear hE hU
  have hBr := ((Below.refl w.heap.size w).alloc (Nat.le_refl _) (.cells (EdA 1 a t u) 25)).alloc (by simp) (.cells #[.int .i64 0, .int .i64 0, .int .i64 0, .string ⟨#[]⟩] 25)
  have hres := Bx.new (w.alloc (.cells (EdA 1 a t u) 25)) 25 #[.int .i64 0, .int .i64 0, .int .i64 0, .string ⟨#[]⟩]
  have hpar := (Bx.new w 25 (EdA 1 a t u)).alloc (.cells #[.int .i64 0, .int .i64 0, .int .i64 0, .string ⟨#[]⟩] 25)
  rw [World.size_alloc] at hres
  obtain ⟨Wr, hWr⟩ : ∃ Wr, Wr = (w.alloc (.cells (EdA 1 a t u) 25)).alloc (.cells #[.int .i64 0, .int .i64 0, .int .i64 0, .string ⟨#[]⟩] 25) := ⟨_, rfl⟩
  rw [← hWr] at hBr hres hpar
  have HR := Lib.hid (And.intro hBr (And.intro hres hpar))
  have hml : w.heap.size + 1 < Wr.heap.size := hres.lt
  have HWr := Lib.hid hWr
  clear hBr hres hpar hWr
  obtain ⟨c0, c1, c2, c3, cl⟩ := id HR.out.2.2.all4
  have Hg := Lib.hid (And.intro hg (World.block_lt_of_cell? _ _ hg))
  clear hg
  go_enter Tryz.func8, Tryz.ntmps8
  go_wp2_with fail
  rw [← HWr.out]
  refine (HE.out _ ((HR.out.1.cell (p := ⟨0, 0, none⟩) Hg.out.2).trans Hg.out.1)).mono ?_
  rintro e w1 ⟨rfl, hb1⟩
  clear c0 c1 c2 c3 cl
  have HB1 := Lib.hid hb1
  obtain ⟨c0, c1, c2, c3, cl⟩ := id (HR.out.2.2.later hb1).all4
  clear hb1
  go_wp2_with fail
  refine (HO.out _).mono ?_
  rintro e w2 ⟨rfl, hb2⟩
  have HB2 := Lib.hid (HB1.out.trans (hb2.mono HB1.out.size))
  clear hb2 c0 c1 c2 c3 cl
  go_wp2_with fail
  refine (HU.out _).mono ?_
  rintro e w3 ⟨rfl, hb3⟩
  have HB3 := Lib.hid (HB2.out.trans (hb3.mono HB2.out.size))
  clear hb3
  have h3 := Bx.new w3 25 (EdA k' a' t' u')
  have hB4 := HB3.out.alloc HB3.out.size (.cells (EdA k' a' t' u') 25)
  obtain ⟨W4, hW4⟩ : ∃ x, x = w3.alloc (.cells (EdA k' a' t' u') 25) := ⟨_, rfl⟩
  rw [← hW4] at h3 hB4
  obtain ⟨d0, d1, d2, d3, dl⟩ := id h3.all4
  have H3 := Lib.hid h3
  have HB4 := Lib.hid hB4
  have HW4 := Lib.hid hW4
  have hR := Below.refl W4.heap.size W4
  clear h3 hB4 hW4
  go_upto_region 5 with fail
  rw [← HW4.out]
  go_region_with (go_at_call 18
                  refine (HC.out _ (by first | exact ((HR.out.1.trans (HB4.out.mono HR.out.1.size)).cell (p := ⟨0, 0, none⟩) Hg.out.2).trans Hg.out.1 | exact ((HR.out.1.trans (HB4.out.drew.mono HR.out.1.size)).cell (p := ⟨0, 0, none⟩) Hg.out.2).trans Hg.out.1)).mono ?_
                  rintro e w5 ⟨rfl, hb5⟩
                  have hd5 : Below W4.heap.size W4 w5 := by first | exact hR.drew.trans (hb5.mono hR.drew.size) | exact hb5
                  clear d0 d1 d2 d3 dl
                  have hbw := HB4.out.trans (hd5.mono HB4.out.size)
                  obtain ⟨d0, d1, d2, d3, dl⟩ := id (H3.out.later hd5).all4
                  have xr := HR.out.2.1.same (hbw.block _ hml)
                  obtain ⟨r0, r1, r2, r3, rl⟩ := id xr.all4
                  have q0 := xr.frozen 0
                  have q1 := xr.frozen 1
                  have q2 := xr.frozen 2
                  have q3 := xr.frozen 3
                  have Hf := Lib.hid hbw
                  clear xr hbw)
  all_goals
    go_wp2
    have x4 := ((((HR.out.2.1.same (Hf.out.block _ hml)).set 0 (.int .i64 k')).set 1 (.int .i64 a')).set 2 (.int .i64 t')).set 3 (.string u')
    have f0 := x4.cell 0 _ rfl
    have f1 := x4.cell 1 _ rfl
    have f2 := x4.cell 2 _ rfl
    have f3 := x4.cell 3 _ rfl
    have hBf := ((((HR.out.1.trans (Hf.out.mono HR.out.1.size)).setCell (p := ⟨w.heap.size + 1, 0, none⟩) (by simp) (.int .i64 k')).setCell (p := ⟨w.heap.size + 1, 1, none⟩) (by simp) (.int .i64 a')).setCell (p := ⟨w.heap.size + 1, 2, none⟩) (by simp) (.int .i64 t')).setCell (p := ⟨w.heap.size + 1, 3, none⟩) (by simp) (.string u')
    exact bodyPost_ret (v := undV k' a' t' u' c') (by simp [results, Tryz.results8, go_sem, f0, f1, f2, f3, undV, EdA]) rfl ⟨rfl, hBf⟩
set_option maxHeartbeats 12800000 in
set_option maxRecDepth 100000 in
theorem impl_Undo_2 (a t : Int) (s u r : ByteArray) (k' a' t' : Int) (u' : ByteArray) (c' : Int) (w : World) (hg : w.cell? ⟨0, 0, none⟩ = some (.iface 124 (.agg #[.pointer (some ⟨7, 43, none⟩)])))
    (hE : ∀ w : World, w.cell? ⟨0, 0, none⟩ = some (.iface 124 (.agg #[.pointer (some ⟨7, 43, none⟩)])) → Calls Tryz.prog 16 #[.string s, .agg (EdA 2 a t u)] w (TupPost (madV r 0) w))
    (hU : ∀ w, Calls Tryz.prog 150 #[.agg (EdA 2 a t u), .string s] w (TupPost (unoV k' a' t' u' c') w)) :
    Calls Tryz.prog 8 #[.string s, .agg (EdA 2 a t u)] w (TupPost (undV k' a' t' u' c') w) := by
  have HE := Lib.hid hE
  have HU := Lib.hid hU
  have HO := Lib.hid (fun W => impl_editOf2 a t u W)
  have HC := Lib.hid (fun W hg => impl_codeOf c' W hg)
  unfold madV at HE
  unfold unoV at HU
  generalize errV c' = E at *
  clear hE hU
  have hBr := ((Below.refl w.heap.size w).alloc (Nat.le_refl _) (.cells (EdA 2 a t u) 25)).alloc (by simp) (.cells #[.int .i64 0, .int .i64 0, .int .i64 0, .string ⟨#[]⟩] 25)
  have hres := Bx.new (w.alloc (.cells (EdA 2 a t u) 25)) 25 #[.int .i64 0, .int .i64 0, .int .i64 0, .string ⟨#[]⟩]
  have hpar := (Bx.new w 25 (EdA 2 a t u)).alloc (.cells #[.int .i64 0, .int .i64 0, .int .i64 0, .string ⟨#[]⟩] 25)
  rw [World.size_alloc] at hres
  obtain ⟨Wr, hWr⟩ : ∃ Wr, Wr = (w.alloc (.cells (EdA 2 a t u) 25)).alloc (.cells #[.int .i64 0, .int .i64 0, .int .i64 0, .string ⟨#[]⟩] 25) := ⟨_, rfl⟩
  rw [← hWr] at hBr hres hpar
  have HR := Lib.hid (And.intro hBr (And.intro hres hpar))
  have hml : w.heap.size + 1 < Wr.heap.size := hres.lt
  have HWr := Lib.hid hWr
  clear hBr hres hpar hWr
  obtain ⟨c0, c1, c2, c3, cl⟩ := id HR.out.2.2.all4
  have Hg := Lib.hid (And.intro hg (World.block_lt_of_cell? _ _ hg))
  clear hg
  go_enter Tryz.func8, Tryz.ntmps8
  go_wp2_with fail
  rw [← HWr.out]
  refine (HE.out _ ((HR.out.1.cell (p := ⟨0, 0, none⟩) Hg.out.2).trans Hg.out.1)).mono ?_
  rintro e w1 ⟨rfl, hb1⟩
  clear c0 c1 c2 c3 cl
  have HB1 := Lib.hid hb1
  obtain ⟨c0, c1, c2, c3, cl⟩ := id (HR.out.2.2.later hb1).all4
  clear hb1
  go_wp2_with fail
  refine (HO.out _).mono ?_
  rintro e w2 ⟨rfl, hb2⟩
  have HB2 := Lib.hid (HB1.out.trans (hb2.mono HB1.out.size))
  clear hb2 c0 c1 c2 c3 cl
  go_wp2_with fail
  refine (HU.out _).mono ?_
  rintro e w3 ⟨rfl, hb3⟩
  have HB3 := Lib.hid (HB2.out.trans (hb3.mono HB2.out.size))
  clear hb3
  have h3 := Bx.new w3 25 (EdA k' a' t' u')
  have hB4 := HB3.out.alloc HB3.out.size (.cells (EdA k' a' t' u') 25)
  obtain ⟨W4, hW4⟩ : ∃ x, x = w3.alloc (.cells (EdA k' a' t' u') 25) := ⟨_, rfl⟩
  rw [← hW4] at h3 hB4
  obtain ⟨d0, d1, d2, d3, dl⟩ := id h3.all4
  have H3 := Lib.hid h3
  have HB4 := Lib.hid hB4
  have HW4 := Lib.hid hW4
  have hR := Below.refl W4.heap.size W4
  clear h3 hB4 hW4
  go_upto_region 5 with fail
  rw [← HW4.out]
  go_region_with (go_at_call 18
                  refine (HC.out _ (by first | exact ((HR.out.1.trans (HB4.out.mono HR.out.1.size)).cell (p := ⟨0, 0, none⟩) Hg.out.2).trans Hg.out.1 | exact ((HR.out.1.trans (HB4.out.drew.mono HR.out.1.size)).cell (p := ⟨0, 0, none⟩) Hg.out.2).trans Hg.out.1)).mono ?_
                  rintro e w5 ⟨rfl, hb5⟩
                  have hd5 : Below W4.heap.size W4 w5 := by first | exact hR.drew.trans (hb5.mono hR.drew.size) | exact hb5
                  clear d0 d1 d2 d3 dl
                  have hbw := HB4.out.trans (hd5.mono HB4.out.size)
                  obtain ⟨d0, d1, d2, d3, dl⟩ := id (H3.out.later hd5).all4
                  have xr := HR.out.2.1.same (hbw.block _ hml)
                  obtain ⟨r0, r1, r2, r3, rl⟩ := id xr.all4
                  have q0 := xr.frozen 0
                  have q1 := xr.frozen 1
                  have q2 := xr.frozen 2
                  have q3 := xr.frozen 3
                  have Hf := Lib.hid hbw
                  clear xr hbw)
  all_goals
    go_wp2
    have x4 := ((((HR.out.2.1.same (Hf.out.block _ hml)).set 0 (.int .i64 k')).set 1 (.int .i64 a')).set 2 (.int .i64 t')).set 3 (.string u')
    have f0 := x4.cell 0 _ rfl
    have f1 := x4.cell 1 _ rfl
    have f2 := x4.cell 2 _ rfl
    have f3 := x4.cell 3 _ rfl
    have hBf := ((((HR.out.1.trans (Hf.out.mono HR.out.1.size)).setCell (p := ⟨w.heap.size + 1, 0, none⟩) (by simp) (.int .i64 k')).setCell (p := ⟨w.heap.size + 1, 1, none⟩) (by simp) (.int .i64 a')).setCell (p := ⟨w.heap.size + 1, 2, none⟩) (by simp) (.int .i64 t')).setCell (p := ⟨w.heap.size + 1, 3, none⟩) (by simp) (.string u')
    exact bodyPost_ret (v := undV k' a' t' u' c') (by simp [results, Tryz.results8, go_sem, f0, f1, f2, f3, undV, EdA]) rfl ⟨rfl, hBf⟩
set_option maxHeartbeats 12800000 in
set_option maxRecDepth 100000 in
theorem impl_Undo_3 (a t : Int) (s u r : ByteArray) (k' a' t' : Int) (u' : ByteArray) (c' : Int) (w : World) (hg : w.cell? ⟨0, 0, none⟩ = some (.iface 124 (.agg #[.pointer (some ⟨7, 43, none⟩)])))
    (hE : ∀ w : World, w.cell? ⟨0, 0, none⟩ = some (.iface 124 (.agg #[.pointer (some ⟨7, 43, none⟩)])) → Calls Tryz.prog 16 #[.string s, .agg (EdA 3 a t u)] w (TupPost (madV r 0) w))
    (hU : ∀ w, Calls Tryz.prog 154 #[.agg (EdA 3 a t u), .string s] w (TupPost (unoV k' a' t' u' c') w)) :
    Calls Tryz.prog 8 #[.string s, .agg (EdA 3 a t u)] w (TupPost (undV k' a' t' u' c') w) := by
  have HE := Lib.hid hE
  have HU := Lib.hid hU
  have HO := Lib.hid (fun W => impl_editOf3 a t u W)
  have HC := Lib.hid (fun W hg => impl_codeOf c' W hg)
  unfold madV at HE
  unfold unoV at HU
  generalize errV c' = E at *
  clear hE hU
  have hBr := ((Below.refl w.heap.size w).alloc (Nat.le_refl _) (.cells (EdA 3 a t u) 25)).alloc (by simp) (.cells #[.int .i64 0, .int .i64 0, .int .i64 0, .string ⟨#[]⟩] 25)
  have hres := Bx.new (w.alloc (.cells (EdA 3 a t u) 25)) 25 #[.int .i64 0, .int .i64 0, .int .i64 0, .string ⟨#[]⟩]
  have hpar := (Bx.new w 25 (EdA 3 a t u)).alloc (.cells #[.int .i64 0, .int .i64 0, .int .i64 0, .string ⟨#[]⟩] 25)
  rw [World.size_alloc] at hres
  obtain ⟨Wr, hWr⟩ : ∃ Wr, Wr = (w.alloc (.cells (EdA 3 a t u) 25)).alloc (.cells #[.int .i64 0, .int .i64 0, .int .i64 0, .string ⟨#[]⟩] 25) := ⟨_, rfl⟩
  rw [← hWr] at hBr hres hpar
  have HR := Lib.hid (And.intro hBr (And.intro hres hpar))
  have hml : w.heap.size + 1 < Wr.heap.size := hres.lt
  have HWr := Lib.hid hWr
  clear hBr hres hpar hWr
  obtain ⟨c0, c1, c2, c3, cl⟩ := id HR.out.2.2.all4
  have Hg := Lib.hid (And.intro hg (World.block_lt_of_cell? _ _ hg))
  clear hg
  go_enter Tryz.func8, Tryz.ntmps8
  go_wp2_with fail
  rw [← HWr.out]
  refine (HE.out _ ((HR.out.1.cell (p := ⟨0, 0, none⟩) Hg.out.2).trans Hg.out.1)).mono ?_
  rintro e w1 ⟨rfl, hb1⟩
  clear c0 c1 c2 c3 cl
  have HB1 := Lib.hid hb1
  obtain ⟨c0, c1, c2, c3, cl⟩ := id (HR.out.2.2.later hb1).all4
  clear hb1
  go_wp2_with fail
  refine (HO.out _).mono ?_
  rintro e w2 ⟨rfl, hb2⟩
  have HB2 := Lib.hid (HB1.out.trans (hb2.mono HB1.out.size))
  clear hb2 c0 c1 c2 c3 cl
  go_wp2_with fail
  refine (HU.out _).mono ?_
  rintro e w3 ⟨rfl, hb3⟩
  have HB3 := Lib.hid (HB2.out.trans (hb3.mono HB2.out.size))
  clear hb3
  have h3 := Bx.new w3 25 (EdA k' a' t' u')
  have hB4 := HB3.out.alloc HB3.out.size (.cells (EdA k' a' t' u') 25)
  obtain ⟨W4, hW4⟩ : ∃ x, x = w3.alloc (.cells (EdA k' a' t' u') 25) := ⟨_, rfl⟩
  rw [← hW4] at h3 hB4
  obtain ⟨d0, d1, d2, d3, dl⟩ := id h3.all4
  have H3 := Lib.hid h3
  have HB4 := Lib.hid hB4
  have HW4 := Lib.hid hW4
  have hR := Below.refl W4.heap.size W4
  clear h3 hB4 hW4
  go_upto_region 5 with fail
  rw [← HW4.out]
  go_region_with (go_at_call 18
                  refine (HC.out _ (by first | exact ((HR.out.1.trans (HB4.out.mono HR.out.1.size)).cell (p := ⟨0, 0, none⟩) Hg.out.2).trans Hg.out.1 | exact ((HR.out.1.trans (HB4.out.drew.mono HR.out.1.size)).cell (p := ⟨0, 0, none⟩) Hg.out.2).trans Hg.out.1)).mono ?_
                  rintro e w5 ⟨rfl, hb5⟩
                  have hd5 : Below W4.heap.size W4 w5 := by first | exact hR.drew.trans (hb5.mono hR.drew.size) | exact hb5
                  clear d0 d1 d2 d3 dl
                  have hbw := HB4.out.trans (hd5.mono HB4.out.size)
                  obtain ⟨d0, d1, d2, d3, dl⟩ := id (H3.out.later hd5).all4
                  have xr := HR.out.2.1.same (hbw.block _ hml)
                  obtain ⟨r0, r1, r2, r3, rl⟩ := id xr.all4
                  have q0 := xr.frozen 0
                  have q1 := xr.frozen 1
                  have q2 := xr.frozen 2
                  have q3 := xr.frozen 3
                  have Hf := Lib.hid hbw
                  clear xr hbw)
  all_goals
    go_wp2
    have x4 := ((((HR.out.2.1.same (Hf.out.block _ hml)).set 0 (.int .i64 k')).set 1 (.int .i64 a')).set 2 (.int .i64 t')).set 3 (.string u')
    have f0 := x4.cell 0 _ rfl
    have f1 := x4.cell 1 _ rfl
    have f2 := x4.cell 2 _ rfl
    have f3 := x4.cell 3 _ rfl
    have hBf := ((((HR.out.1.trans (Hf.out.mono HR.out.1.size)).setCell (p := ⟨w.heap.size + 1, 0, none⟩) (by simp) (.int .i64 k')).setCell (p := ⟨w.heap.size + 1, 1, none⟩) (by simp) (.int .i64 a')).setCell (p := ⟨w.heap.size + 1, 2, none⟩) (by simp) (.int .i64 t')).setCell (p := ⟨w.heap.size + 1, 3, none⟩) (by simp) (.string u')
    exact bodyPost_ret (v := undV k' a' t' u' c') (by simp [results, Tryz.results8, go_sem, f0, f1, f2, f3, undV, EdA]) rfl ⟨rfl, hBf⟩
set_option maxHeartbeats 12800000 in
set_option maxRecDepth 100000 in
theorem impl_Undo_4 (a t : Int) (s u r : ByteArray) (k' a' t' : Int) (u' : ByteArray) (c' : Int) (w : World) (hg : w.cell? ⟨0, 0, none⟩ = some (.iface 124 (.agg #[.pointer (some ⟨7, 43, none⟩)])))
    (hE : ∀ w : World, w.cell? ⟨0, 0, none⟩ = some (.iface 124 (.agg #[.pointer (some ⟨7, 43, none⟩)])) → Calls Tryz.prog 16 #[.string s, .agg (EdA 4 a t u)] w (TupPost (madV r 0) w))
    (hU : ∀ w, Calls Tryz.prog 158 #[.agg (EdA 4 a t u), .string s] w (TupPost (unoV k' a' t' u' c') w)) :
    Calls Tryz.prog 8 #[.string s, .agg (EdA 4 a t u)] w (TupPost (undV k' a' t' u' c') w) := by
  have HE := Lib.hid hE
  have HU := Lib.hid hU
  have HO := Lib.hid (fun W => impl_editOf4 a t u W)
  have HC := Lib.hid (fun W hg => impl_codeOf c' W hg)
  unfold madV at HE
  unfold unoV at HU
  generalize errV c' = E at *
  clear hE hU
  have hBr := ((Below.refl w.heap.size w).alloc (Nat.le_refl _) (.cells (EdA 4 a t u) 25)).alloc (by simp) (.cells #[.int .i64 0, .int .i64 0, .int .i64 0, .string ⟨#[]⟩] 25)
  have hres := Bx.new (w.alloc (.cells (EdA 4 a t u) 25)) 25 #[.int .i64 0, .int .i64 0, .int .i64 0, .string ⟨#[]⟩]
  have hpar := (Bx.new w 25 (EdA 4 a t u)).alloc (.cells #[.int .i64 0, .int .i64 0, .int .i64 0, .string ⟨#[]⟩] 25)
  rw [World.size_alloc] at hres
  obtain ⟨Wr, hWr⟩ : ∃ Wr, Wr = (w.alloc (.cells (EdA 4 a t u) 25)).alloc (.cells #[.int .i64 0, .int .i64 0, .int .i64 0, .string ⟨#[]⟩] 25) := ⟨_, rfl⟩
  rw [← hWr] at hBr hres hpar
  have HR := Lib.hid (And.intro hBr (And.intro hres hpar))
  have hml : w.heap.size + 1 < Wr.heap.size := hres.lt
  have HWr := Lib.hid hWr
  clear hBr hres hpar hWr
  obtain ⟨c0, c1, c2, c3, cl⟩ := id HR.out.2.2.all4
  have Hg := Lib.hid (And.intro hg (World.block_lt_of_cell? _ _ hg))
  clear hg
  go_enter Tryz.func8, Tryz.ntmps8
  go_wp2_with fail
  rw [← HWr.out]
  refine (HE.out _ ((HR.out.1.cell (p := ⟨0, 0, none⟩) Hg.out.2).trans Hg.out.1)).mono ?_
  rintro e w1 ⟨rfl, hb1⟩
  clear c0 c1 c2 c3 cl
  have HB1 := Lib.hid hb1
  obtain ⟨c0, c1, c2, c3, cl⟩ := id (HR.out.2.2.later hb1).all4
  clear hb1
  go_wp2_with fail
  refine (HO.out _).mono ?_
  rintro e w2 ⟨rfl, hb2⟩
  have HB2 := Lib.hid (HB1.out.trans (hb2.mono HB1.out.size))
  clear hb2 c0 c1 c2 c3 cl
  go_wp2_with fail
  refine (HU.out _).mono ?_
  rintro e w3 ⟨rfl, hb3⟩
  have HB3 := Lib.hid (HB2.out.trans (hb3.mono HB2.out.size))
  clear hb3
  have h3 := Bx.new w3 25 (EdA k' a' t' u')
  have hB4 := HB3.out.alloc HB3.out.size (.cells (EdA k' a' t' u') 25)
  obtain ⟨W4, hW4⟩ : ∃ x, x = w3.alloc (.cells (EdA k' a' t' u') 25) := ⟨_, rfl⟩
  rw [← hW4] at h3 hB4
  obtain ⟨d0, d1, d2, d3, dl⟩ := id h3.all4
  have H3 := Lib.hid h3
  have HB4 := Lib.hid hB4
  have HW4 := Lib.hid hW4
  have hR := Below.refl W4.heap.size W4
  clear h3 hB4 hW4
  go_upto_region 5 with fail
  rw [← HW4.out]
  go_region_with (go_at_call 18
                  refine (HC.out _ (by first | exact ((HR.out.1.trans (HB4.out.mono HR.out.1.size)).cell (p := ⟨0, 0, none⟩) Hg.out.2).trans Hg.out.1 | exact ((HR.out.1.trans (HB4.out.drew.mono HR.out.1.size)).cell (p := ⟨0, 0, none⟩) Hg.out.2).trans Hg.out.1)).mono ?_
                  rintro e w5 ⟨rfl, hb5⟩
                  have hd5 : Below W4.heap.size W4 w5 := by first | exact hR.drew.trans (hb5.mono hR.drew.size) | exact hb5
                  clear d0 d1 d2 d3 dl
                  have hbw := HB4.out.trans (hd5.mono HB4.out.size)
                  obtain ⟨d0, d1, d2, d3, dl⟩ := id (H3.out.later hd5).all4
                  have xr := HR.out.2.1.same (hbw.block _ hml)
                  obtain ⟨r0, r1, r2, r3, rl⟩ := id xr.all4
                  have q0 := xr.frozen 0
                  have q1 := xr.frozen 1
                  have q2 := xr.frozen 2
                  have q3 := xr.frozen 3
                  have Hf := Lib.hid hbw
                  clear xr hbw)
  all_goals
    go_wp2
    have x4 := ((((HR.out.2.1.same (Hf.out.block _ hml)).set 0 (.int .i64 k')).set 1 (.int .i64 a')).set 2 (.int .i64 t')).set 3 (.string u')
    have f0 := x4.cell 0 _ rfl
    have f1 := x4.cell 1 _ rfl
    have f2 := x4.cell 2 _ rfl
    have f3 := x4.cell 3 _ rfl
    have hBf := ((((HR.out.1.trans (Hf.out.mono HR.out.1.size)).setCell (p := ⟨w.heap.size + 1, 0, none⟩) (by simp) (.int .i64 k')).setCell (p := ⟨w.heap.size + 1, 1, none⟩) (by simp) (.int .i64 a')).setCell (p := ⟨w.heap.size + 1, 2, none⟩) (by simp) (.int .i64 t')).setCell (p := ⟨w.heap.size + 1, 3, none⟩) (by simp) (.string u')
    exact bodyPost_ret (v := undV k' a' t' u' c') (by simp [results, Tryz.results8, go_sem, f0, f1, f2, f3, undV, EdA]) rfl ⟨rfl, hBf⟩
set_option maxHeartbeats 12800000 in
set_option maxRecDepth 100000 in
theorem impl_Undo_5 (a t : Int) (s u r : ByteArray) (k' a' t' : Int) (u' : ByteArray) (c' : Int) (w : World) (hg : w.cell? ⟨0, 0, none⟩ = some (.iface 124 (.agg #[.pointer (some ⟨7, 43, none⟩)])))
    (hE : ∀ w : World, w.cell? ⟨0, 0, none⟩ = some (.iface 124 (.agg #[.pointer (some ⟨7, 43, none⟩)])) → Calls Tryz.prog 16 #[.string s, .agg (EdA 5 a t u)] w (TupPost (madV r 0) w))
    (hU : ∀ w, Calls Tryz.prog 160 #[.agg (EdA 5 a t u), .string s] w (TupPost (unoV k' a' t' u' c') w)) :
    Calls Tryz.prog 8 #[.string s, .agg (EdA 5 a t u)] w (TupPost (undV k' a' t' u' c') w) := by
  have HE := Lib.hid hE
  have HU := Lib.hid hU
  have HO := Lib.hid (fun W => impl_editOf5 a t u W)
  have HC := Lib.hid (fun W hg => impl_codeOf c' W hg)
  unfold madV at HE
  unfold unoV at HU
  generalize errV c' = E at *
  clear hE hU
  have hBr := ((Below.refl w.heap.size w).alloc (Nat.le_refl _) (.cells (EdA 5 a t u) 25)).alloc (by simp) (.cells #[.int .i64 0, .int .i64 0, .int .i64 0, .string ⟨#[]⟩] 25)
  have hres := Bx.new (w.alloc (.cells (EdA 5 a t u) 25)) 25 #[.int .i64 0, .int .i64 0, .int .i64 0, .string ⟨#[]⟩]
  have hpar := (Bx.new w 25 (EdA 5 a t u)).alloc (.cells #[.int .i64 0, .int .i64 0, .int .i64 0, .string ⟨#[]⟩] 25)
  rw [World.size_alloc] at hres
  obtain ⟨Wr, hWr⟩ : ∃ Wr, Wr = (w.alloc (.cells (EdA 5 a t u) 25)).alloc (.cells #[.int .i64 0, .int .i64 0, .int .i64 0, .string ⟨#[]⟩] 25) := ⟨_, rfl⟩
  rw [← hWr] at hBr hres hpar
  have HR := Lib.hid (And.intro hBr (And.intro hres hpar))
  have hml : w.heap.size + 1 < Wr.heap.size := hres.lt
  have HWr := Lib.hid hWr
  clear hBr hres hpar hWr
  obtain ⟨c0, c1, c2, c3, cl⟩ := id HR.out.2.2.all4
  have Hg := Lib.hid (And.intro hg (World.block_lt_of_cell? _ _ hg))
  clear hg
  go_enter Tryz.func8, Tryz.ntmps8
  go_wp2_with fail
  rw [← HWr.out]
  refine (HE.out _ ((HR.out.1.cell (p := ⟨0, 0, none⟩) Hg.out.2).trans Hg.out.1)).mono ?_
  rintro e w1 ⟨rfl, hb1⟩
  clear c0 c1 c2 c3 cl
  have HB1 := Lib.hid hb1
  obtain ⟨c0, c1, c2, c3, cl⟩ := id (HR.out.2.2.later hb1).all4
  clear hb1
  go_wp2_with fail
  refine (HO.out _).mono ?_
  rintro e w2 ⟨rfl, hb2⟩
  have HB2 := Lib.hid (HB1.out.trans (hb2.mono HB1.out.size))
  clear hb2 c0 c1 c2 c3 cl
  go_wp2_with fail
  refine (HU.out _).mono ?_
  rintro e w3 ⟨rfl, hb3⟩
  have HB3 := Lib.hid (HB2.out.trans (hb3.mono HB2.out.size))
  clear hb3
  have h3 := Bx.new w3 25 (EdA k' a' t' u')
  have hB4 := HB3.out.alloc HB3.out.size (.cells (EdA k' a' t' u') 25)
  obtain ⟨W4, hW4⟩ : ∃ x, x = w3.alloc (.cells (EdA k' a' t' u') 25) := ⟨_, rfl⟩
  rw [← hW4] at h3 hB4
  obtain ⟨d0, d1, d2, d3, dl⟩ := id h3.all4
  have H3 := Lib.hid h3
  have HB4 := Lib.hid hB4
  have HW4 := Lib.hid hW4
  have hR := Below.refl W4.heap.size W4
  clear h3 hB4 hW4
  go_upto_region 5 with fail
  rw [← HW4.out]
  go_region_with (go_at_call 18
                  refine (HC.out _ (by first | exact ((HR.out.1.trans (HB4.out.mono HR.out.1.size)).cell (p := ⟨0, 0, none⟩) Hg.out.2).trans Hg.out.1 | exact ((HR.out.1.trans (HB4.out.drew.mono HR.out.1.size)).cell (p := ⟨0, 0, none⟩) Hg.out.2).trans Hg.out.1)).mono ?_
                  rintro e w5 ⟨rfl, hb5⟩
                  have hd5 : Below W4.heap.size W4 w5 := by first | exact hR.drew.trans (hb5.mono hR.drew.size) | exact hb5
                  clear d0 d1 d2 d3 dl
                  have hbw := HB4.out.trans (hd5.mono HB4.out.size)
                  obtain ⟨d0, d1, d2, d3, dl⟩ := id (H3.out.later hd5).all4
                  have xr := HR.out.2.1.same (hbw.block _ hml)
                  obtain ⟨r0, r1, r2, r3, rl⟩ := id xr.all4
                  have q0 := xr.frozen 0
                  have q1 := xr.frozen 1
                  have q2 := xr.frozen 2
                  have q3 := xr.frozen 3
                  have Hf := Lib.hid hbw
                  clear xr hbw)
  all_goals
    go_wp2
    have x4 := ((((HR.out.2.1.same (Hf.out.block _ hml)).set 0 (.int .i64 k')).set 1 (.int .i64 a')).set 2 (.int .i64 t')).set 3 (.string u')
    have f0 := x4.cell 0 _ rfl
    have f1 := x4.cell 1 _ rfl
    have f2 := x4.cell 2 _ rfl
    have f3 := x4.cell 3 _ rfl
    have hBf := ((((HR.out.1.trans (Hf.out.mono HR.out.1.size)).setCell (p := ⟨w.heap.size + 1, 0, none⟩) (by simp) (.int .i64 k')).setCell (p := ⟨w.heap.size + 1, 1, none⟩) (by simp) (.int .i64 a')).setCell (p := ⟨w.heap.size + 1, 2, none⟩) (by simp) (.int .i64 t')).setCell (p := ⟨w.heap.size + 1, 3, none⟩) (by simp) (.string u')
    exact bodyPost_ret (v := undV k' a' t' u' c') (by simp [results, Tryz.results8, go_sem, f0, f1, f2, f3, undV, EdA]) rfl ⟨rfl, hBf⟩
end Go.Proofs.YtblgjedjljfmcaaGreatDoor
/- UndoTreeEdit: both answer the same. -/
namespace Go.Proofs.YtblgjedjljfmcaaGreatDoor
open Go.RowKit
set_option linter.unusedVariables false

def HgAt (w : World) : Prop := w.cell? ⟨0, 0, none⟩ = some (.iface 124 (.agg #[.pointer (some ⟨7, 43, none⟩)]))
/-- Both answer this edit and this code. -/
def BothUndo (k a t : Int) (s u : ByteArray) : Prop := ∃ (k' a' t' : Int) (u' : ByteArray) (c : Int), u'.size ≤ 1048576 ∧
    (∀ w, Calls Tryz.prog 6 #[.string s, .agg (EdA k a t u)] w (TupPost (undV k' a' t' u' c) w)) ∧
    (∀ w : World, HgAt w → Calls Tryz.prog 8 #[.string s, .agg (EdA k a t u)] w (TupPost (undV k' a' t' u' c) w))
/-- An edit that cannot be made. -/
theorem bothUndo_bad (k a t : Int) (s u r : ByteArray) (c : Int) (hs : s.size ≤ 1048576) (hu : u.size ≤ 1048576) (h : (wB s && edB k a t u) = true) (hc : c ≠ 0)
    (hM : ∀ B w, Bx w B 25 (EdA k a t u) → Calls Tryz.prog 13 #[.string s, .pointer (some ⟨B, 0, none⟩)] w (TupPost (madV r c) w))
    (hE : ∀ w : World, HgAt w → Calls Tryz.prog 16 #[.string s, .agg (EdA k a t u)] w (TupPost (madV r c) w)) : BothUndo k a t s u :=
  ⟨0, 0, 0, ⟨#[]⟩, c, Nat.zero_le _, fun w => spec_Undo_bad k a t s u r c w hs hu h hc hM, fun w hg => impl_Undo_bad k a t s u r c w hg hc hE⟩
theorem both_le (s : ByteArray) (a m : Nat) (h60 : s.size ≤ 60) : (bothW s a m).size ≤ 1048576 := by
  unfold bothW
  rw [ByteArray.size_append, ByteArray.size_extract, ByteArray.size_extract]
  omega

theorem both_UndoTreeEdit (k a t : Int) (s u : ByteArray) (hs : s.size ≤ 1048576) (hu : u.size ≤ 1048576) : BothUndo k a t s u := by
  cases h : wB s && edB k a t u with
  | false => exact ⟨0, 0, 0, ⟨#[]⟩, 1, Nat.zero_le _, fun w => spec_Undo_no k a t s u w hs hu h, fun w hg => impl_Undo_bad k a t s u _ 1 w hg (by decide) fun w _ => impl_EditTree_no k a t s u w hs hu h⟩
  | true =>
    have h' := h
    rw [Bool.and_eq_true] at h'
    have hW := (wB_iff s).1 h'.1
    have h60 := hW.1
    obtain ⟨k, a, t, rfl, rfl, rfl, hk, ha, ht, _, htx, _, _, hb⟩ := edB_iff h'.2
    obtain rfl | rfl | rfl | rfl | rfl : k = 1 ∨ k = 2 ∨ k = 3 ∨ k = 4 ∨ k = 5 := by omega
    case inl =>
      obtain ⟨r, c, hS, hI⟩ := both_PutAt s a u hs hu (wf_small a ha)
      have hM : ∀ B w, Bx w B 25 (EdA 1 a t u) → Calls Tryz.prog 13 #[.string s, .pointer (some ⟨B, 0, none⟩)] w (TupPost (madV r c) w) := fun B w hx => spec_made_put a t s u r c w hx.edAt hS
      have hE : ∀ w : World, HgAt w → Calls Tryz.prog 16 #[.string s, .agg (EdA 1 a t u)] w (TupPost (madV r c) w) := fun w hg => impl_EditTree1 a t s u r c w hs hu h hg fun w => impl_put a t s u r c w hI
      by_cases hc : c = 0
      case neg => exact bothUndo_bad 1 a t s u r c hs hu h hc hM hE
      subst hc
      have htw : wmB u = true := by simpa [txtB] using htx
      rw [wmB, Bool.and_eq_true] at htw
      have hWu := (wB_iff u).1 htw.1
      by_cases he : u = ⟨#[]⟩
      · exact ⟨1, a, 0, ⟨#[]⟩, 0, Nat.zero_le _, fun w => spec_Undo_empty a t s u r w hs hu h he hM, fun w hg => impl_Undo_1 a t s u r _ _ _ _ _ w hg hE fun w => impl_undone_put_empty a t s u he hWu htw.2 w⟩
      · have h0 : u.size ≠ 0 := fun e => he (by
          apply ByteArray.ext
          have := ByteArray.size_data (a := u)
          exact Array.eq_empty_of_size_eq_zero (by omega))
        by_cases h1 : u.size = 1
        · by_cases hf : (facW u u.size).length = 1
          · exact ⟨0, 0, 0, ⟨#[]⟩, 4, Nat.zero_le _, fun w => spec_Undo_one a t s u r w hs hu h he h1 hM, fun w hg => impl_Undo_1 a t s u r _ _ _ _ _ w hg hE fun w => impl_undone_put_one_y a t s u he h1 hWu htw.2 hf w⟩
          · exact ⟨0, 0, 0, ⟨#[]⟩, 4, Nat.zero_le _, fun w => spec_Undo_one a t s u r w hs hu h he h1 hM, fun w hg => impl_Undo_1 a t s u r _ _ _ _ _ w hg hE fun w => impl_undone_put_one_n a t s u he h1 hWu htw.2 hf w⟩
        · by_cases hf : (facW u u.size).length = 1
          · exact ⟨2, a, 0, ⟨#[]⟩, 0, Nat.zero_le _, fun w => spec_Undo_factor a t s u r w hs hu h he h1 hWu htw.2 hf hM, fun w hg => impl_Undo_1 a t s u r _ _ _ _ _ w hg hE fun w => impl_undone_put_factor a t s u he (by omega) hWu htw.2 hf w⟩
          · exact ⟨0, 0, 0, ⟨#[]⟩, 4, Nat.zero_le _, fun w => spec_Undo_many a t s u r w hs hu h he h1 hWu htw.2 hf hM, fun w hg => impl_Undo_1 a t s u r _ _ _ _ _ w hg hE fun w => impl_undone_put_many a t s u he (by omega) hWu htw.2 hf w⟩
    case inr.inl =>
      rcases call_cases s a hW with hr | ⟨hk, p, hp, hc | ⟨hc, rfl⟩ | ⟨hc, m, rfl, h1, h2⟩⟩
      · exact bothUndo_bad 2 a t s u _ 2 hs hu h (by decide) (fun B w hx => spec_made_cut a t s u _ _ w hx.edAt fun w => spec_CutMatched_bad s a _ 2 w (by omega) fun w => spec_closed_range s a w hW (by omega))
          (fun w hg => impl_EditTree2 a t s u _ _ w hs hu h hg fun w => impl_cut a t s u _ _ w fun w => impl_CutMatched_bad s a _ 2 w (by omega) fun w => impl_closed_range s a w hW (by omega) (by omega))
      · exact bothUndo_bad 2 a t s u _ 4 hs hu h (by decide) (fun B w hx => spec_made_cut a t s u _ _ w hx.edAt fun w => spec_CutMatched_bad s a _ 4 w (by omega) fun w => spec_closed_inner s w hW a p hk hp hc)
          (fun w hg => impl_EditTree2 a t s u _ _ w hs hu h hg fun w => impl_cut a t s u _ _ w fun w => impl_CutMatched_bad s a _ 4 w (by omega) fun w => impl_closed_inner s w hW a p hk hp hc)
      · exact bothUndo_bad 2 a t s u _ 4 hs hu h (by decide) (fun B w hx => spec_made_cut a t s u _ _ w hx.edAt fun w => spec_CutMatched_bad s a _ 4 w (by omega) fun w => spec_closed_pend s w hW a _ hk hp hc (by decide))
          (fun w hg => impl_EditTree2 a t s u _ _ w hs hu h hg fun w => impl_cut a t s u _ _ w fun w => impl_CutMatched_bad s a _ 4 w (by omega) fun w => impl_closed_pend s w hW a _ hk hp hc rfl)
      · exact ⟨1, a, 0, s.extract a (m + 1), 0, Nat.le_trans (ext_le s a (m + 1) h60) (by omega),
          fun w => spec_Undo_cut a t s u _ w hs hu h hW hk m hp h1 h2 (fun B w hx => spec_made_cut a t s u _ _ w hx.edAt fun w => spec_CutMatched_yes s a m w h1 h2 h60 fun w => spec_closed_yes s w hW a _ hk hp hc (by omega)),
          fun w hg => impl_Undo_2 a t s u _ _ _ _ _ _ w hg (fun w hg => impl_EditTree2 a t s u _ _ w hs hu h hg fun w => impl_cut a t s u _ _ w fun w => impl_CutMatched_yes s a m w h1 h2 h60 fun w => impl_closed_yes s w hW a _ hk hp hc (by omega)) fun w => impl_undone_cut a t s u hW hk m hp h1 h2 hc w⟩
    case inr.inr.inr.inl =>
      have hu2 := brkB_size (hb (.inl rfl))
      by_cases hr : t < a ∨ s.size < t
      · exact bothUndo_bad 4 a t s u _ _ hs hu h (by decide) (fun B w hx => spec_made_wrap_range a t s u w h60 hx.edAt hr) (fun w hg => impl_EditTree4 a t s u _ _ w hs hu h hg fun w => impl_wrap_range a t s u w h60 hr)
      · cases hm : mB (s.extract a t).data.toList with
        | false => exact bothUndo_bad 4 a t s u _ _ hs hu h (by decide) (fun B w hx => spec_made_wrap_state a t s u w hW hu2 hx.edAt (by omega) (by omega) hm) (fun w hg => impl_EditTree4 a t s u _ _ w hs hu h hg fun w => impl_wrap_state a t s u w hW hu2 (by omega) (by omega) hm)
        | true =>
          have hz := wrap_size s u a t hu2 (by omega) (by omega)
          by_cases hl : s.size + 2 ≤ 60
          · exact ⟨3, a, 0, ⟨#[]⟩, 0, Nat.zero_le _, fun w => spec_Undo_wrap a t s u _ w hs hu h (fun B w hx => spec_made_wrap_yes a t s u w hW hu2 hx.edAt (by omega) (by omega) hm hl),
              fun w hg => impl_Undo_4 a t s u _ _ _ _ _ _ w hg (fun w hg => impl_EditTree4 a t s u _ _ w hs hu h hg fun w => impl_wrap_yes a t s u w hW hu2 (by omega) (by omega) hm _ _ (by rw [toldV, if_pos (by omega)])) fun w => impl_undone_wrap a t s u w⟩
          · exact bothUndo_bad 4 a t s u _ _ hs hu h (by decide) (fun B w hx => spec_made_wrap_limit a t s u w hW hu2 hx.edAt (by omega) (by omega) hm (by omega)) (fun w hg => impl_EditTree4 a t s u _ _ w hs hu h hg fun w => impl_wrap_yes a t s u w hW hu2 (by omega) (by omega) hm _ _ (by rw [toldV, if_neg (by omega)]))
    case inr.inr.inl =>
      rcases call_cases s a hW with hr | ⟨hk, p, hp, hc | ⟨hc, rfl⟩ | ⟨hc, m, rfl, h1, h2⟩⟩
      · exact bothUndo_bad 3 a t s u _ _ hs hu h (by decide) (fun B w hx => spec_made_call_range 3 a t s u w h60 (.inl rfl) hx.edAt hr) (fun w hg => impl_EditTree3 a t s u _ _ w hs hu h hg fun w => impl_open a t s u _ _ w fun w => impl_renamed_bad s _ _ a 0 2 w (.inl rfl) fun w => impl_closed_range s a w hW (by omega) (by omega))
      · exact bothUndo_bad 3 a t s u _ _ hs hu h (by decide) (fun B w hx => spec_made_call_inner 3 a t s u w hW (.inl rfl) hx.edAt hk p hp hc) (fun w hg => impl_EditTree3 a t s u _ _ w hs hu h hg fun w => impl_open a t s u _ _ w fun w => impl_renamed_bad s _ _ a 0 4 w (.inr rfl) fun w => impl_closed_inner s w hW a p hk hp hc)
      · exact bothUndo_bad 3 a t s u _ _ hs hu h (by decide) (fun B w hx => spec_made_call_pend 3 a t s u w hW (.inl rfl) hx.edAt hk _ hp hc (by decide)) (fun w hg => impl_EditTree3 a t s u _ _ w hs hu h hg fun w => impl_open a t s u _ _ w fun w => impl_renamed_bad s _ _ a 0 4 w (.inr rfl) fun w => impl_closed_pend s w hW a _ hk hp hc rfl)
      · have e : openW s a m = s.extract 0 a ++ ⟨#[]⟩ ++ s.extract (a + 1) m ++ ⟨#[]⟩ ++ s.extract (m + 1) s.size := by
          show _ = s.extract 0 a ++ ByteArray.empty ++ s.extract (a + 1) m ++ ByteArray.empty ++ s.extract (m + 1) s.size
          rw [ByteArray.append_empty, ByteArray.append_empty]; rfl
        exact ⟨4, a, (m : Int) - 1, bothW s a m, 0, both_le s a m h60,
          fun w => spec_Undo_open a t s u _ w hs hu h hW hk m hp h1 h2 (fun B w hx => spec_made_open a t s u w hW hx.edAt hk _ hp m rfl h1 h2 hc),
          fun w hg => impl_Undo_3 a t s u _ _ _ _ _ _ w hg (fun w hg => impl_EditTree3 a t s u _ _ w hs hu h hg fun w => impl_open a t s u _ _ w fun w => by exact impl_renamed_yes s _ _ a m w h1 h2 h60 (Nat.zero_le _) (Nat.zero_le _) fun w => impl_closed_yes s w hW a _ hk hp hc (by omega)) fun w => impl_undone_open a t s u hW hk m hp h1 h2 hc w⟩
    case inr.inr.inr.inr =>
      have hu2 := brkB_size (hb (.inr rfl))
      rcases call_cases s a hW with hr | ⟨hk, p, hp, hc | ⟨hc, rfl⟩ | ⟨hc, m, rfl, h1, h2⟩⟩
      · exact bothUndo_bad 5 a t s u _ _ hs hu h (by decide) (fun B w hx => spec_made_call_range 5 a t s u w h60 (.inr rfl) hx.edAt hr) (fun w hg => impl_EditTree5 a t s u _ _ w hs hu h hg fun w => impl_name a t s u _ _ w hu2 fun w => impl_renamed_bad s _ _ a 0 2 w (.inl rfl) fun w => impl_closed_range s a w hW (by omega) (by omega))
      · exact bothUndo_bad 5 a t s u _ _ hs hu h (by decide) (fun B w hx => spec_made_call_inner 5 a t s u w hW (.inr rfl) hx.edAt hk p hp hc) (fun w hg => impl_EditTree5 a t s u _ _ w hs hu h hg fun w => impl_name a t s u _ _ w hu2 fun w => impl_renamed_bad s _ _ a 0 4 w (.inr rfl) fun w => impl_closed_inner s w hW a p hk hp hc)
      · exact bothUndo_bad 5 a t s u _ _ hs hu h (by decide) (fun B w hx => spec_made_call_pend 5 a t s u w hW (.inr rfl) hx.edAt hk _ hp hc (by decide)) (fun w hg => impl_EditTree5 a t s u _ _ w hs hu h hg fun w => impl_name a t s u _ _ w hu2 fun w => impl_renamed_bad s _ _ a 0 4 w (.inr rfl) fun w => impl_closed_pend s w hW a _ hk hp hc rfl)
      · exact ⟨5, a, 0, bothW s a m, 0, both_le s a m h60,
          fun w => spec_Undo_name a t s u _ w hs hu h hW hk m hp h1 h2 (fun B w hx => spec_made_name a t s u w hW hx.edAt hk _ hp m rfl h1 h2 hc hu2),
          fun w hg => impl_Undo_5 a t s u _ _ _ _ _ _ w hg (fun w hg => impl_EditTree5 a t s u _ _ w hs hu h hg fun w => impl_name a t s u _ _ w hu2 fun w => impl_renamed_yes s _ _ a m w h1 h2 h60 (one_le u) (rest_le u hu2) fun w => impl_closed_yes s w hW a _ hk hp hc (by omega)) fun w => impl_undone_name a t s u hW hk m hp h1 h2 hc w⟩
end Go.Proofs.YtblgjedjljfmcaaGreatDoor
