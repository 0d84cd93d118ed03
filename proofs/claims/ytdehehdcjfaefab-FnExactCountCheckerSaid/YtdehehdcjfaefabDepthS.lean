/- DepthChecker of the model. -/
import Derived.Test.YtdehehdcjfaefabPlain
import Derived.Test.YtdehehdcjfaefabIn
import Derived.Test.YtdehehdcjfaefabPost0
import Derived.Test.YtdehehdcjfaefabDepI
namespace Go.Proofs.Ytdehehdcjfaefab
open Go.RowKit
set_option linter.unusedVariables false

theorem plain_succ (k : Nat) (acc : Nat → Bool) (f : Nat → Nat → Int) : plusCk (plainCk k acc f) (acc k) (f k 0) (f k 1) (f k 2) (f k 3) (f k 4) (f k 5) = plainCk (k + 1) acc f := by
  simp [plusCk, plainCk, List.range_succ]
theorem plain_short {k : Nat} (acc : Nat → Bool) (f : Nat → Nat → Int) (h : k ≤ 100) : Short (plainCk k acc f) := by
  simp [Short, plainCk, h]
theorem plain_box0 {base : Nat} (W : World) (acc : Nat → Bool) (f : Nat → Nat → Int) : BoxAt base (W.alloc (.cells #[.int .i64 1, .int .i64 0, .slice none 0 0, .slice none 0 0, .slice none 0 0, .slice none 0 0] 31)) W.heap.size (plainCk 0 acc f) [] := by
  refine ⟨_, _, _, _, [], [], [], [], Bx.new _ _ _, ⟨World.ownsRow_nil _ _ _ _, rfl⟩, ?_, ?_, ?_, rfl, List.nodup_nil, by simp⟩
  · simpa [plainCk] using ManyE.nil _ _ _ _
  · simpa [plainCk] using ManyE.nil _ _ _ _
  · simpa [plainCk] using ManyE.nil _ _ _ _

abbrev depthPre (m k : Nat) : Ck := plainCk k (fun d => decide (d ≤ m)) (depthTo m)
theorem depth_step {m k : Nat} (h : k ≤ m) : plusCk (depthPre m k) true ((k : Int) + 1) ((k : Int) + 1) (max ((k : Int) - 1) 0) (max ((k : Int) - 1) 0) (k : Int) (k : Int) = depthPre m (k + 1) := by
  have e := plain_succ k (fun d => decide (d ≤ m)) (depthTo m)
  have hn : ¬ m < k := by omega
  have hm : max ((k : Int) - 1) 0 = ((k - 1 : Nat) : Int) := by omega
  rw [hm]
  simpa [depthTo, hn, h, depthPre] using e
theorem depth_last (m : Nat) : plusCk (depthPre m (m + 1)) false ((m : Int) + 1) ((m : Int) + 1) ((m : Int) + 1) ((m : Int) + 1) ((m : Int) + 1) ((m : Int) + 1) = depthCk m := by
  have e := plain_succ (m + 1) (fun d => decide (d ≤ m)) (depthTo m)
  have hd : decide (m + 1 ≤ m) = false := by simp
  rw [hd] at e
  simpa [depthTo, depthCk] using e

set_option maxHeartbeats 1600000 in
set_option maxRecDepth 100000 in
theorem spec_Depth_no (y : Int) (w : World) (h : y < 0 ∨ 9 < y) : Calls Try.prog 24 #[.int .i64 y] w (PostR CkE nilCk 2 w) := by
  have Hin := Lib.hid (fun W => in_no y 0 9 W h)
  have hB := (Below.refl w.heap.size w).alloc (Nat.le_refl _) (.cells #[.int .i64 0, .int .i64 0, .slice none 0 0, .slice none 0 0, .slice none 0 0, .slice none 0 0] 31)
  clear h
  go_enter Try.func24, Try.ntmps24
  go_wp2_with fail
  refine (Hin.out _).mono ?_
  rintro e w1 ⟨rfl, rfl⟩
  obtain ⟨c0, c1, c2, c3, c4, c5, cl⟩ := id (Bx.all6 (Bx.new w 31 #[.int .i64 0, .int .i64 0, .slice none 0 0, .slice none 0 0, .slice none 0 0, .slice none 0 0]))
  go_wp2
  exact bodyPost_ret (v := .tuple #[.agg #[.int .i64 0, .int .i64 0, .slice none 0 0, .slice none 0 0, .slice none 0 0, .slice none 0 0], .int .i64 2]) (by simp [results, Try.results24, go_sem, c0, c1, c2, c3, c4, c5]) rfl ⟨_, [], rfl, nil_ck _ _, hB⟩

set_option maxHeartbeats 6400000 in
set_option maxRecDepth 100000 in
theorem spec_Depth_yes (m : Nat) (w : World) (h : m ≤ 9) : Calls Try.prog 24 #[.int .i64 (m : Int)] w (PostR CkE (depthCk m) 0 w) := by
  have Hin := Lib.hid (fun W => in_yes (m : Int) 0 9 W (by omega) (by omega))
  have hBr := (Below.refl w.heap.size w).alloc (Nat.le_refl _) (.cells #[.int .i64 0, .int .i64 0, .slice none 0 0, .slice none 0 0, .slice none 0 0, .slice none 0 0] 31)
  have hres := Bx.new w 31 #[.int .i64 0, .int .i64 0, .slice none 0 0, .slice none 0 0, .slice none 0 0, .slice none 0 0]
  obtain ⟨Wr, hWr⟩ : ∃ Wr, Wr = w.alloc (.cells #[.int .i64 0, .int .i64 0, .slice none 0 0, .slice none 0 0, .slice none 0 0, .slice none 0 0] 31) := ⟨_, rfl⟩
  rw [← hWr] at hBr hres
  have hB1 := (Below.refl Wr.heap.size Wr).alloc (Nat.le_refl _) (.cells #[.int .i64 1, .int .i64 0, .slice none 0 0, .slice none 0 0, .slice none 0 0, .slice none 0 0] 31)
  have hbox := plain_box0 (base := Wr.heap.size) Wr (fun d => decide (d ≤ m)) (depthTo m)
  have hr1 := hres.alloc (.cells #[.int .i64 1, .int .i64 0, .slice none 0 0, .slice none 0 0, .slice none 0 0, .slice none 0 0] 31)
  obtain ⟨b, hb⟩ : ∃ b, b = Wr.heap.size := ⟨_, rfl⟩
  obtain ⟨W1, hW1⟩ : ∃ W1, W1 = Wr.alloc (.cells #[.int .i64 1, .int .i64 0, .slice none 0 0, .slice none 0 0, .slice none 0 0, .slice none 0 0] 31) := ⟨_, rfl⟩
  rw [← hW1] at hB1 hbox hr1
  have hne : w.heap.size ∉ b :: ([] : List Nat) := by
    have := hres.lt
    simp; omega
  have HWL := Lib.hid hres.lt
  have HBr := Lib.hid hBr
  have HR := Lib.hid (And.intro hr1 (And.intro hB1 hne))
  have HW1 := Lib.hid (show ∀ k ∈ b :: ([] : List Nat), Wr.heap.size ≤ k by intro k hk; rw [List.mem_singleton.1 hk, hb]; exact Nat.le_refl _)
  have HG := Lib.hid (show GrownAt Wr.heap.size W1 b [] W1 (depthPre m 0) from GrownAt.refl (by rw [hb]; exact hbox) hB1.size)
  have HW := Lib.hid (And.intro hWr (And.intro hW1 hb))
  have hbs : b < W1.heap.size := by rw [hb]; exact hbox.lt.1
  clear hBr hres hB1 hbox hr1 hne hWr hW1 hb
  go_enter Try.func24, Try.ntmps24
  go_wp2_with fail
  refine (Hin.out _).mono ?_
  rintro e w1 ⟨rfl, rfl⟩
  go_wp2_with fail
  have hz : w.heap.size + 1 = b := by rw [HW.out.2.2, HW.out.1, World.size_alloc]
  rw [← HW.out.1, ← HW.out.2.1]
  try rw [hz]
  clear hz HW
  go_loopw [5] (fun i wr => ∃ k : Nat, k ≤ m + 1 ∧ i = .int .i64 k ∧ GrownAt Wr.heap.size W1 b [] wr (depthPre m k)) (fun i _ => m + 1 - (intOf i).toNat)
  case atStart => exact ⟨0, Nat.zero_le _, rfl, HG.out⟩
  case round =>
    obtain ⟨k, hk, rfl, hG⟩ := hrel
    have HGk := Lib.hid hG
    by_cases hlt : k ≤ m
    · clear hG
      go_wp2_with fail
      refine (spec_max0 _ _).mono ?_
      rintro e w1 ⟨rfl, rfl⟩
      have hal := (Below.refl wr.heap.size wr).alloc (Nat.le_refl _) (.cells #[.int .i64 ((k : Int) + 1), .int .i64 ((k : Int) + 1), .int .i64 (max ((k : Int) - 1) 0), .int .i64 (max ((k : Int) - 1) 0), .int .i64 (k : Int), .int .i64 (k : Int)] 2)
      have hto : IntsE wr.heap.size (wr.alloc (.cells #[.int .i64 ((k : Int) + 1), .int .i64 ((k : Int) + 1), .int .i64 (max ((k : Int) - 1) 0), .int .i64 (max ((k : Int) - 1) 0), .int .i64 (k : Int), .int .i64 (k : Int)] 2)) (.slice (some ⟨wr.heap.size, 0, none⟩) 6 6) [(k : Int) + 1, (k : Int) + 1, max ((k : Int) - 1) 0, max ((k : Int) - 1) 0, (k : Int), (k : Int)] [wr.heap.size] :=
        rowE_lit 6 (World.alloc_heap_new _ _) (Nat.le_refl _) rfl rfl rfl (by unfold maxLen; omega)
      have hGa := HGk.out.later hal
      obtain ⟨⟨bs0, hbx0, hs0⟩, hT0, hb0⟩ := HGk.out
      have hd0 : ∀ q ∈ [wr.heap.size], q ∉ b :: bs0 := by
        intro q hq
        rw [List.mem_singleton.1 hq]
        have h1 := hbx0.lt
        intro hm
        rcases List.mem_cons.1 hm with e | hm
        · omega
        · have := (h1.2 _ hm).2; omega
      have hbxa := hbx0.later hal
      have Hp := Lib.hid (spec_plain true _ _ _ _ _ _ _ rfl (plain_short _ _ (by omega)) (Nat.le_trans hGa.base hGa.turned.size) hbxa hto hd0)
      have Hst := Lib.hid (fun (X : World) hX => GrownAt.trans hGa hs0 (w' := X) (c' := depthPre m (k + 1)) hX)
      have Hstep := Lib.hid (depth_step hlt)
      clear hal hto hGa hbx0 hs0 hT0 hb0 hd0 hbxa
      go_wp2_with fail
      refine Hp.out.mono ?_
      rintro e w2 ⟨rfl, hG2⟩
      rw [Hstep.out] at hG2
      have hG3 := Lib.hid (Hst.out w2 hG2)
      clear hG2 Hst Hp
      go_wp2
      go_roundw
      case rel => exact ⟨k + 1, by omega, by go_num, hG3.out⟩
      case measure => simp [intOf]; omega
    · have e : k = m + 1 := by omega
      subst e
      have Hs6 := Lib.hid (spec_same6 ((m : Int) + 1) 6 (by omega) wr)
      clear hG
      go_wp2_with fail
      refine Hs6.out.mono ?_
      rintro e w2 ⟨v2, bs2, rfl, hto, hal⟩
      have hGa := HGk.out.later hal
      obtain ⟨⟨bs0, hbx0, hs0⟩, hT0, hb0⟩ := HGk.out
      have hd0 : ∀ q ∈ bs2, q ∉ b :: bs0 := by
        intro q hq hm
        have h1 := hbx0.lt
        have h2 := ((ints_ok _).lt hto q hq).1
        rcases List.mem_cons.1 hm with e | hm
        · omega
        · have := (h1.2 _ hm).2; omega
      have hbxa := hbx0.later hal
      have Hp := Lib.hid (spec_plain false ((m : Int) + 1) ((m : Int) + 1) ((m : Int) + 1) ((m : Int) + 1) ((m : Int) + 1) ((m : Int) + 1) _ rfl (plain_short _ _ (by omega)) (Nat.le_trans hGa.base hGa.turned.size) hbxa hto hd0)
      have Hst := Lib.hid (fun (X : World) hX => GrownAt.trans hGa hs0 (w' := X) (c' := depthCk m) hX)
      have Hstep := Lib.hid (depth_last m)
      clear hal hto hGa hbx0 hs0 hT0 hb0 hd0 hbxa Hs6
      go_wp2_with fail
      refine Hp.out.mono ?_
      rintro e X ⟨rfl, hG2⟩
      rw [Hstep.out] at hG2
      have hG3 := Hst.out X hG2
      obtain ⟨c9, hc9⟩ : ∃ c9, c9 = depthCk m := ⟨_, rfl⟩
      rw [← hc9] at hG3
      have H9 := Lib.hid hc9.symm
      have HG9 := Lib.hid hG3
      clear hG2 Hst Hp hG3 hc9 HGk Hstep HG Hin
      obtain ⟨⟨bs9, hbx9, hsub9⟩, hT9, hb9⟩ := HG9.out
      obtain ⟨va, vc, vr, vi, d1, d2, d3, d4, xb, f1, f2, f3, f4, rfl, hnd, hnb⟩ := hbx9.ex
      obtain ⟨A5, k5, rfl⟩ := RowE.slice f1
      obtain ⟨C5, kc5, rfl⟩ := ManyE.slice f2
      obtain ⟨R5, kr5, rfl⟩ := ManyE.slice f3
      obtain ⟨I5, ki5, rfl⟩ := ManyE.slice f4
      have xr : Bx X w.heap.size 31 #[.int .i64 0, .int .i64 0, .slice none 0 0, .slice none 0 0, .slice none 0 0, .slice none 0 0] := HR.out.1.same (hT9.block w.heap.size HR.out.1.lt HR.out.2.2)
      have hBX : Below Wr.heap.size Wr X := hT9.below HR.out.2.1 HR.out.2.1.size (fun k hk => HW1.out k hk)
      have Hf := Lib.hid (And.intro f1 (And.intro f2 (And.intro f3 (And.intro f4 (And.intro hnd (And.intro hBX xr))))))
      obtain ⟨z0, z1, z2, z3, z4, z5, zl⟩ := id xb.all6
      obtain ⟨r0, r1, r2, r3, r4, r5, rl⟩ := id xr.all6
      have q0 := xr.frozen 0
      have q1 := xr.frozen 1
      have q2 := xr.frozen 2
      have q3 := xr.frozen 3
      have q4 := xr.frozen 4
      have q5 := xr.frozen 5
      clear f1 f2 f3 f4 hnd hnb hbx9 xr xb hT9 hsub9 hBX
      go_wp2
      obtain ⟨f1, f2, f3, f4, hnd, hBX, xr⟩ := Hf.out
      have hBr0 := HBr.out
      have x5' := (((((xr.set 0 (.int .i64 c9.stack)).set 1 (.int .i64 c9.start)).set 2 (.slice A5 c9.accept.length k5)).set 3 (.slice C5 c9.call.length kc5)).set 4 (.slice R5 c9.ret.length kr5)).set 5 (.slice I5 c9.inner.length ki5)
      have hfr : ∀ (V : World) (i : Nat) (v : Value) (k : Nat), w.heap.size < k → (V.setCell ⟨w.heap.size, i, none⟩ v).heap[k]? = V.heap[k]? := fun V i v k hk => Below.heap_setCell V ⟨w.heap.size, i, none⟩ v k (fun e => by
        have h2 : k = w.heap.size := e
        omega)
      obtain ⟨Wf, hWf⟩ : ∃ Wf, Wf = (((((X.setCell ⟨w.heap.size, 0, none⟩ (.int .i64 c9.stack)).setCell ⟨w.heap.size, 1, none⟩ (.int .i64 c9.start)).setCell ⟨w.heap.size, 2, none⟩ (.slice A5 c9.accept.length k5)).setCell ⟨w.heap.size, 3, none⟩ (.slice C5 c9.call.length kc5)).setCell ⟨w.heap.size, 4, none⟩ (.slice R5 c9.ret.length kr5)).setCell ⟨w.heap.size, 5, none⟩ (.slice I5 c9.inner.length ki5) := ⟨_, rfl⟩
      have hkeep : ∀ k, w.heap.size < k → Wf.heap[k]? = X.heap[k]? := fun k hk => by
        rw [hWf, hfr _ _ _ k hk, hfr _ _ _ k hk, hfr _ _ _ k hk, hfr _ _ _ k hk, hfr _ _ _ k hk, hfr _ _ _ k hk]
      have hBf : Below w.heap.size w Wf := by
        rw [hWf]
        exact ((((((hBr0.trans (hBX.mono hBr0.size)).setCell (p := ⟨w.heap.size, 0, none⟩) (Nat.le_refl _) _).setCell (p := ⟨w.heap.size, 1, none⟩) (Nat.le_refl _) _).setCell (p := ⟨w.heap.size, 2, none⟩) (Nat.le_refl _) _).setCell (p := ⟨w.heap.size, 3, none⟩) (Nat.le_refl _) _).setCell (p := ⟨w.heap.size, 4, none⟩) (Nat.le_refl _) _).setCell (p := ⟨w.heap.size, 5, none⟩) (Nat.le_refl _) _
      rw [← hWf] at x5' ⊢
      have hlt0 := HWL.out
      have F1 := bools_base (Nat.zero_le _) _ _ _ _ ((bools_ok _).kept f1 fun k hk => hkeep k (by have := ((bools_ok _).lt f1 k hk).1; omega))
      have F2 := pushes2_base (Nat.zero_le _) _ _ _ _ ((push2_ok _).kept f2 fun k hk => hkeep k (by have := ((push2_ok _).lt f2 k hk).1; omega))
      have F3 := ints3_base (Nat.zero_le _) _ _ _ _ ((ints3_ok _).kept f3 fun k hk => hkeep k (by have := ((ints3_ok _).lt f3 k hk).1; omega))
      have F4 := ints2_base (Nat.zero_le _) _ _ _ _ ((ints2_ok _).kept f4 fun k hk => hkeep k (by have := ((ints2_ok _).lt f4 k hk).1; omega))
      have e0 := x5'.cell 0 (.int .i64 c9.stack) rfl
      have e1 := x5'.cell 1 (.int .i64 c9.start) rfl
      have e2 := x5'.cell 2 (.slice A5 c9.accept.length k5) rfl
      have e3 := x5'.cell 3 (.slice C5 c9.call.length kc5) rfl
      have e4 := x5'.cell 4 (.slice R5 c9.ret.length kr5) rfl
      have e5 := x5'.cell 5 (.slice I5 c9.inner.length ki5) rfl
      rw [H9.out]
      exact bodyPost_ret (v := .tuple #[.agg #[.int .i64 c9.stack, .int .i64 c9.start, .slice A5 c9.accept.length k5, .slice C5 c9.call.length kc5, .slice R5 c9.ret.length kr5, .slice I5 c9.inner.length ki5], .int .i64 0]) (by simp [results, Try.results24, go_sem, e0, e1, e2, e3, e4, e5]) rfl ⟨_, _, rfl, ⟨_, _, _, _, d1, d2, d3, d4, rfl, F1, F2, F3, F4, rfl, hnd⟩, hBf⟩
end Go.Proofs.Ytdehehdcjfaefab
