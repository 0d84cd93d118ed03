/- DepthChecker of the program, and both sides. -/
import Derived.Test.YtdehehdcjfaefabBlindD
import Derived.Test.YtdehehdcjfaefabDepthS
namespace Go.Proofs.Ytdehehdcjfaefab
open Go.RowKit
set_option linter.unusedVariables false

/-- One of the states is made to accept. -/
theorem GrownAt.put {base : Nat} {w0 X : World} {b g n ka : Nat} {c : Ck} {bs d1 d2 d3 d4 : List Nat} {vc vr vi : Value}
    (xb : Bx X b 31 #[.int .i64 c.stack, .int .i64 c.start, .slice (some ⟨g, 0, none⟩) n ka, vc, vr, vi]) (f1 : BoolsE base X (.slice (some ⟨g, 0, none⟩) n ka) c.accept d1) (f2 : Push2E base X vc c.call d2) (f3 : Ints3E base X vr c.ret d3) (f4 : Ints2E base X vi c.inner d4)
    (hnd : (d1 ++ (d2 ++ (d3 ++ d4))).Nodup) (hnb : b ∉ d1 ++ (d2 ++ (d3 ++ d4))) (hsub : ∀ k ∈ d1 ++ (d2 ++ (d3 ++ d4)), k ∈ bs ∨ w0.heap.size ≤ k) (hT : Turned (b :: bs) w0 X) (hb0 : base ≤ w0.heap.size) (k : Nat) (x : Bool) :
    GrownAt base w0 b bs (X.setCell ⟨g, k, none⟩ (.bool x)) { c with accept := c.accept.set k x } := by
  have p := RowE.put1 (f := fun x => Value.bool x) f1 k x
  have hn2 := List.nodup_append.1 hnd
  have off : ∀ q, q ∈ d2 ++ (d3 ++ d4) → q ∉ d1 := fun q h1 h2 => hn2.2.2 q h2 q h1 rfl
  have hb1 : b ∉ d1 := fun h => hnb (List.mem_append_left _ h)
  refine ⟨⟨_, ⟨_, _, _, _, d1, d2, d3, d4, xb.off p.2 hb1, p.1, (push2_ok _).kept f2 fun q hq => p.2.block q ((push2_ok _).lt f2 q hq).2 (off q (List.mem_append_left _ hq)), (ints3_ok _).kept f3 fun q hq => p.2.block q ((ints3_ok _).lt f3 q hq).2 (off q (List.mem_append_right _ (List.mem_append_left _ hq))),
    (ints2_ok _).kept f4 fun q hq => p.2.block q ((ints2_ok _).lt f4 q hq).2 (off q (List.mem_append_right _ (List.mem_append_right _ hq))), rfl, hnd, hnb⟩, hsub⟩, ?_, hb0⟩
  refine ⟨p.2.os.trans hT.os, p.2.tape.trans hT.tape, p.2.output.trans hT.output, Nat.le_trans hT.size p.2.size, fun q hq hn => (p.2.block q (Nat.lt_of_lt_of_le hq hT.size) (fun hm => ?_)).trans (hT.block q hq hn)⟩
  rcases hsub q (List.mem_append_left _ hm) with h | h
  · exact hn (List.mem_cons_of_mem _ h)
  · omega

def depthAt (m k : Nat) : Ck := { plainCk (m + 2) (fun d => decide (d < k)) (depthTo m) with stack := 1 }
theorem depthAt_zero (m : Nat) : blindPre (m + 2) (m + 2) (depthTo m) = depthAt m 0 := by
  simp [blindPre, depthAt, plainCk, List.map_const']
theorem depthAt_succ (m k : Nat) : { depthAt m k with accept := (depthAt m k).accept.set k true } = depthAt m (k + 1) := by
  have e : ((List.range (m + 2)).map fun d => decide (d < k)).set k true = (List.range (m + 2)).map fun d => decide (d < k + 1) := by
    apply List.ext_getElem (by simp)
    intro i h1 h2
    rw [List.getElem_set]
    split
    · rename_i h; subst h; simp
    · rename_i h
      simp only [List.getElem_map, List.getElem_range, decide_eq_decide]
      omega
  simp [depthAt, plainCk, e]
theorem depthAt_last (m : Nat) : depthAt m (m + 1) = depthCk m := by
  simp [depthAt, depthCk, plainCk, Nat.lt_succ_iff]

set_option maxHeartbeats 3200000 in
set_option maxRecDepth 100000 in
theorem impl_Depth_no (y : Int) (w : World) (h : y < 0 ∨ 9 < y) : Calls Try.prog 25 #[.int .i64 y] w (PostV CkE nilCk 2 w) := by
  have hB := ((Below.refl w.heap.size w).alloc (Nat.le_refl _) (.cells #[.int .i64 y] 2)).alloc (by simp) (.cells #[.int .i64 0, .int .i64 0, .slice none 0 0, .slice none 0 0, .slice none 0 0, .slice none 0 0] 31)
  have hx := Bx.new (w.alloc (.cells #[.int .i64 y] 2)) 31 #[.int .i64 0, .int .i64 0, .slice none 0 0, .slice none 0 0, .slice none 0 0, .slice none 0 0]
  rw [World.size_alloc] at hx
  obtain ⟨c0, c1, c2, c3, c4, c5, cl⟩ := id hx.all6
  have q0 := hx.frozen 0
  by_cases h1 : y < 0
  · clear h
    go_enter Try.func25, Try.ntmps25
    go_wp2
    exact bodyPost_ret (v := .tuple #[.agg #[.int .i64 0, .int .i64 0, .slice none 0 0, .slice none 0 0, .slice none 0 0, .slice none 0 0], .int .i64 2]) (by simp [results, Try.results25, go_sem, c0, c1, c2, c3, c4, c5]) rfl ⟨_, [], rfl, nil_ck _ _, hB⟩
  · have h2 : 9 < y := by omega
    clear h
    go_enter Try.func25, Try.ntmps25
    go_wp2
    exact bodyPost_ret (v := .tuple #[.agg #[.int .i64 0, .int .i64 0, .slice none 0 0, .slice none 0 0, .slice none 0 0, .slice none 0 0], .int .i64 2]) (by simp [results, Try.results25, go_sem, c0, c1, c2, c3, c4, c5]) rfl ⟨_, [], rfl, nil_ck _ _, hB⟩

set_option maxHeartbeats 12800000 in
set_option maxRecDepth 100000 in
theorem impl_Depth_yes (m : Nat) (w : World) (h : m ≤ 9) : Calls Try.prog 25 #[.int .i64 (m : Int)] w (PostV CkE (depthCk m) 0 w) := by
  obtain ⟨Wr, hWr⟩ : ∃ Wr, Wr = (w.alloc (.cells #[.int .i64 (m : Int)] 2)).alloc (.cells #[.int .i64 0, .int .i64 0, .slice none 0 0, .slice none 0 0, .slice none 0 0, .slice none 0 0] 31) := ⟨_, rfl⟩
  have hBr : Below w.heap.size w Wr := by rw [hWr]; exact ((Below.refl w.heap.size w).alloc (Nat.le_refl _) _).alloc (by simp) _
  have hMb : Bx Wr w.heap.size 2 #[.int .i64 (m : Int)] := by rw [hWr]; exact (Bx.new w _ _).alloc _
  have hres : Bx Wr (w.heap.size + 1) 31 #[.int .i64 0, .int .i64 0, .slice none 0 0, .slice none 0 0, .slice none 0 0, .slice none 0 0] := by
    rw [hWr]
    have t := Bx.new (w.alloc (.cells #[.int .i64 (m : Int)] 2)) 31 #[.int .i64 0, .int .i64 0, .slice none 0 0, .slice none 0 0, .slice none 0 0, .slice none 0 0]
    rwa [World.size_alloc] at t
  have hsz : Wr.heap.size = w.heap.size + 1 + 1 := by rw [hWr, World.size_alloc, World.size_alloc]
  have Hbl := Lib.hid (impl_blindD (m := m) (M := w.heap.size) Wr h (hMb.cell 0 _ rfl))
  have HBr := Lib.hid hBr
  have HWL := Lib.hid (show w.heap.size + 1 < Wr.heap.size by omega)
  have HM := Lib.hid (And.intro hMb (And.intro hres hsz))
  have HW := Lib.hid hWr
  have m0 := hMb.cell 0 _ rfl
  rw [hWr] at m0
  clear hWr hBr hMb hres hsz
  go_enter Try.func25, Try.ntmps25
  go_wp2_with fail
  rw [← HW.out]
  refine Hbl.out.mono ?_
  rintro e w1 ⟨v1, bs1, rfl, hE1, hB1⟩
  obtain ⟨va, vc, vr, vi, d1, d2, d3, d4, rfl, f1, f2, f3, f4, hbs, hnd⟩ := hE1
  obtain ⟨A1, k1, rfl⟩ := RowE.slice f1
  obtain ⟨b, hb⟩ : ∃ b, b = w1.heap.size := ⟨_, rfl⟩
  obtain ⟨c0, hc0⟩ : ∃ c0, c0 = blindPre (m + 2) (m + 2) (depthTo m) := ⟨_, rfl⟩
  have hn0 : (blindPre (m + 2) (m + 2) (depthTo m)).accept.length = m + 2 := by simp [blindPre]
  have hst0 : (blindPre (m + 2) (m + 2) (depthTo m)).stack = 1 ∧ (blindPre (m + 2) (m + 2) (depthTo m)).start = 0 := ⟨rfl, rfl⟩
  obtain ⟨C1, kc1, rfl⟩ := ManyE.slice f2
  obtain ⟨R1, kr1, rfl⟩ := ManyE.slice f3
  obtain ⟨I1, ki1, rfl⟩ := ManyE.slice f4
  obtain ⟨lc, hlc⟩ : ∃ l, l = (blindPre (m + 2) (m + 2) (depthTo m)).call.length := ⟨_, rfl⟩
  obtain ⟨lr, hlr⟩ : ∃ l, l = (blindPre (m + 2) (m + 2) (depthTo m)).ret.length := ⟨_, rfl⟩
  obtain ⟨li, hli⟩ : ∃ l, l = (blindPre (m + 2) (m + 2) (depthTo m)).inner.length := ⟨_, rfl⟩
  rw [← hlc] at f2 ⊢
  rw [← hlr] at f3 ⊢
  rw [← hli] at f4 ⊢
  rw [hn0] at f1 ⊢
  rw [hst0.1, hst0.2]
  have hal := (Below.refl w1.heap.size w1).alloc (Nat.le_refl _) (.cells #[.int .i64 1, .int .i64 0, .slice A1 (m + 2) k1, .slice C1 lc kc1, .slice R1 lr kr1, .slice I1 li ki1] 31)
  have xb := Bx.new w1 31 #[.int .i64 1, .int .i64 0, .slice A1 (m + 2) k1, .slice C1 lc kc1, .slice R1 lr kr1, .slice I1 li ki1]
  obtain ⟨W1, hW1⟩ : ∃ W1, W1 = w1.alloc (.cells #[.int .i64 1, .int .i64 0, .slice A1 (m + 2) k1, .slice C1 lc kc1, .slice R1 lr kr1, .slice I1 li ki1] 31) := ⟨_, rfl⟩
  rw [← hW1] at hal xb
  have g1 := (bools_ok _).later f1 hal
  have g2 := (push2_ok _).later f2 hal
  have g3 := (ints3_ok _).later f3 hal
  have g4 := (ints2_ok _).later f4 hal
  have t1 := (bools_ok _).lt f1
  have t2 := (push2_ok _).lt f2
  have t3 := (ints3_ok _).lt f3
  have t4 := (ints2_ok _).lt f4
  rw [hbs] at hnd
  have hlt : ∀ q ∈ d1 ++ (d2 ++ (d3 ++ d4)), Wr.heap.size ≤ q ∧ q < w1.heap.size := by
    intro q hq
    rcases List.mem_append.1 hq with hq | hq
    · exact t1 q hq
    · rcases List.mem_append.1 hq with hq | hq
      · exact t2 q hq
      · rcases List.mem_append.1 hq with hq | hq
        · exact t3 q hq
        · exact t4 q hq
  have hnb : b ∉ d1 ++ (d2 ++ (d3 ++ d4)) := fun hm => by have := (hlt b hm).2; omega
  have hBW : Below Wr.heap.size Wr W1 := hB1.trans (hal.mono hB1.size)
  have hG0 : GrownAt Wr.heap.size W1 b (d1 ++ (d2 ++ (d3 ++ d4))) W1 (depthAt m 0) := by
    rw [← depthAt_zero]
    exact GrownAt.refl ⟨_, _, _, _, d1, d2, d3, d4, by rw [hb]; exact xb, g1, g2, g3, g4, rfl, hnd, hnb⟩ hBW.size
  have hs1 := hB1.size
  have HR := Lib.hid (And.intro (HM.out.2.1.later hBW) (And.intro hBW (show w.heap.size + 1 ∉ b :: (d1 ++ (d2 ++ (d3 ++ d4))) from fun hm => by
    have z := HM.out.2.2
    rcases List.mem_cons.1 hm with e | hm
    · omega
    · have := (hlt _ hm).1; omega)))
  have HW1 := Lib.hid (show ∀ k ∈ b :: (d1 ++ (d2 ++ (d3 ++ d4))), Wr.heap.size ≤ k from fun k hk => by
    rcases List.mem_cons.1 hk with e | hk
    · omega
    · exact (hlt k hk).1)
  have HG := Lib.hid hG0
  have HMW := Lib.hid (And.intro (HM.out.1.later hBW) (show w.heap.size ∉ b :: (d1 ++ (d2 ++ (d3 ++ d4))) from fun hm => by
    have z := HM.out.2.2
    rcases List.mem_cons.1 hm with e | hm
    · omega
    · have := (hlt _ hm).1; omega))
  have HX := Lib.hid (And.intro hW1 hb)
  have HMl := Lib.hid (show w.heap.size < W1.heap.size by have z := HM.out.2.2; have := hBW.size; omega)
  have mW := (HM.out.1.later hBW).cell 0 _ rfl
  rw [hW1] at mW
  obtain ⟨bs, hbsd⟩ : ∃ bs, bs = d1 ++ (d2 ++ (d3 ++ d4)) := ⟨_, rfl⟩
  rw [← hbsd] at HR HW1 HG HMW
  clear f1 f2 f3 f4 g1 g2 g3 g4 t1 t2 t3 t4 hlt hnb hBW hG0 hal xb hbs hnd hbsd hB1 Hbl hs1 hc0 hn0 hst0 hW1 hb hlc hlr hli
  go_wp2_with fail
  rw [← HX.out.1, ← HX.out.2]
  clear HX mW m0
  go_loopw [19] (fun i wr => ∃ k : Nat, k ≤ m + 1 ∧ i = .int .i64 k ∧ GrownAt Wr.heap.size W1 b bs wr (depthAt m k)) (fun i _ => m + 1 - (intOf i).toNat)
  case atStart => exact ⟨0, Nat.zero_le _, rfl, HG.out⟩
  case round =>
    obtain ⟨k, hk, rfl, hG⟩ := hrel
    by_cases hlt : k < m + 1
    · obtain ⟨⟨bs0, hbx, hsub⟩, hT, hb0⟩ := hG
      obtain ⟨va, vc, vr, vi, d1, d2, d3, d4, xb, f1, f2, f3, f4, rfl, hnd, hnb⟩ := hbx.ex
      have hn0 : (depthAt m k).accept.length = m + 2 := by simp [depthAt, plainCk]
      obtain ⟨A1, k1, rfl⟩ := RowE.slice f1
      obtain ⟨g, rfl, hg, _⟩ := RowE.head f1 (j := k) (by omega)
      rw [hn0] at f1 xb
      obtain ⟨y, hy⟩ : ∃ y, (depthAt m k).accept[k]? = some y := ⟨_, List.getElem?_eq_getElem (by omega)⟩
      have c2 := xb.cell 2 _ rfl
      have cg : wr.cell? ⟨g, k, none⟩ = some (.bool y) := BoolsE.cell' f1 hy
      have qg := RowE.frozen f1 k
      have hp := GrownAt.put xb f1 f2 f3 f4 hnd hnb hsub hT hb0 k true
      rw [depthAt_succ] at hp
      have HP := Lib.hid hp
      clear hbx f1 f2 f3 f4 hnd hnb hsub hT hb0 xb hp hy
      go_wp2
      go_roundw
      case rel => exact ⟨k + 1, by omega, by go_num, HP.out⟩
      case measure => simp [intOf]; omega
    · have e : k = m + 1 := by omega
      subst e
      rw [depthAt_last] at hG
      obtain ⟨c9, hc9⟩ : ∃ c9, c9 = depthCk m := ⟨_, rfl⟩
      rw [← hc9] at hG
      have H9 := Lib.hid hc9.symm
      obtain ⟨X, rfl⟩ : ∃ X, X = wr := ⟨_, rfl⟩
      have HG9 := Lib.hid hG
      clear hG hc9 HG
      obtain ⟨⟨bs9, hbx9, hsub9⟩, hT9, hb9⟩ := HG9.out
      obtain ⟨va, vc, vr, vi, d1, d2, d3, d4, xb, f1, f2, f3, f4, rfl, hnd, hnb⟩ := hbx9.ex
      obtain ⟨A5, k5, rfl⟩ := RowE.slice f1
      obtain ⟨C5, kc5, rfl⟩ := ManyE.slice f2
      obtain ⟨R5, kr5, rfl⟩ := ManyE.slice f3
      obtain ⟨I5, ki5, rfl⟩ := ManyE.slice f4
      have xr : Bx X (w.heap.size + 1) 31 #[.int .i64 0, .int .i64 0, .slice none 0 0, .slice none 0 0, .slice none 0 0, .slice none 0 0] := HR.out.1.same (hT9.block (w.heap.size + 1) HR.out.1.lt HR.out.2.2)
      have hBX : Below Wr.heap.size Wr X := hT9.below HR.out.2.1 HR.out.2.1.size (fun k hk => HW1.out k hk)
      have Hf := Lib.hid (And.intro f1 (And.intro f2 (And.intro f3 (And.intro f4 (And.intro hnd (And.intro hBX xr))))))
      obtain ⟨z0, z1, z2, z3, z4, z5, zl⟩ := id xb.all6
      obtain ⟨r0, r1, r2, r3, r4, r5, rl⟩ := id xr.all6
      have q0 := xr.frozen 0
      have q1 := xr.frozen 1
      have q2 := xr.frozen 2
      have q3 := xr.frozen 3
      have q4 := xr.frozen 4
      have q5 := xr.frozen 5
      clear f1 f2 f3 f4 hnd hnb hbx9 xr xb hT9 hsub9 hBX
      go_wp2
      obtain ⟨f1, f2, f3, f4, hnd, hBX, xr⟩ := Hf.out
      have hBr0 := HBr.out
      have x5' := (((((xr.set 0 (.int .i64 c9.stack)).set 1 (.int .i64 c9.start)).set 2 (.slice A5 c9.accept.length k5)).set 3 (.slice C5 c9.call.length kc5)).set 4 (.slice R5 c9.ret.length kr5)).set 5 (.slice I5 c9.inner.length ki5)
      have hfr : ∀ (V : World) (i : Nat) (v : Value) (k : Nat), w.heap.size + 1 < k → (V.setCell ⟨w.heap.size + 1, i, none⟩ v).heap[k]? = V.heap[k]? := fun V i v k hk => Below.heap_setCell V ⟨w.heap.size + 1, i, none⟩ v k (fun e => by
        have h2 : k = w.heap.size + 1 := e
        omega)
      obtain ⟨Wf, hWf⟩ : ∃ Wf, Wf = (((((X.setCell ⟨w.heap.size + 1, 0, none⟩ (.int .i64 c9.stack)).setCell ⟨w.heap.size + 1, 1, none⟩ (.int .i64 c9.start)).setCell ⟨w.heap.size + 1, 2, none⟩ (.slice A5 c9.accept.length k5)).setCell ⟨w.heap.size + 1, 3, none⟩ (.slice C5 c9.call.length kc5)).setCell ⟨w.heap.size + 1, 4, none⟩ (.slice R5 c9.ret.length kr5)).setCell ⟨w.heap.size + 1, 5, none⟩ (.slice I5 c9.inner.length ki5) := ⟨_, rfl⟩
      have hkeep : ∀ k, w.heap.size + 1 < k → Wf.heap[k]? = X.heap[k]? := fun k hk => by
        rw [hWf, hfr _ _ _ k hk, hfr _ _ _ k hk, hfr _ _ _ k hk, hfr _ _ _ k hk, hfr _ _ _ k hk, hfr _ _ _ k hk]
      have hBf : Below w.heap.size w Wf := by
        rw [hWf]
        exact ((((((hBr0.trans (hBX.mono hBr0.size)).setCell (p := ⟨w.heap.size + 1, 0, none⟩) (by simp) _).setCell (p := ⟨w.heap.size + 1, 1, none⟩) (by simp) _).setCell (p := ⟨w.heap.size + 1, 2, none⟩) (by simp) _).setCell (p := ⟨w.heap.size + 1, 3, none⟩) (by simp) _).setCell (p := ⟨w.heap.size + 1, 4, none⟩) (by simp) _).setCell (p := ⟨w.heap.size + 1, 5, none⟩) (by simp) _
      rw [← hWf] at x5' ⊢
      have hlt0 := HWL.out
      have F1 := bools_base HBr.out.size _ _ _ _ ((bools_ok _).kept f1 fun k hk => hkeep k (by have := ((bools_ok _).lt f1 k hk).1; omega))
      have F2 := pushes2_base HBr.out.size _ _ _ _ ((push2_ok _).kept f2 fun k hk => hkeep k (by have := ((push2_ok _).lt f2 k hk).1; omega))
      have F3 := ints3_base HBr.out.size _ _ _ _ ((ints3_ok _).kept f3 fun k hk => hkeep k (by have := ((ints3_ok _).lt f3 k hk).1; omega))
      have F4 := ints2_base HBr.out.size _ _ _ _ ((ints2_ok _).kept f4 fun k hk => hkeep k (by have := ((ints2_ok _).lt f4 k hk).1; omega))
      have e0 := x5'.cell 0 (.int .i64 c9.stack) rfl
      have e1 := x5'.cell 1 (.int .i64 c9.start) rfl
      have e2 := x5'.cell 2 (.slice A5 c9.accept.length k5) rfl
      have e3 := x5'.cell 3 (.slice C5 c9.call.length kc5) rfl
      have e4 := x5'.cell 4 (.slice R5 c9.ret.length kr5) rfl
      have e5 := x5'.cell 5 (.slice I5 c9.inner.length ki5) rfl
      rw [H9.out]
      exact bodyPost_ret (v := .tuple #[.agg #[.int .i64 c9.stack, .int .i64 c9.start, .slice A5 c9.accept.length k5, .slice C5 c9.call.length kc5, .slice R5 c9.ret.length kr5, .slice I5 c9.inner.length ki5], .int .i64 0]) (by simp [results, Try.results25, go_sem, e0, e1, e2, e3, e4, e5]) rfl ⟨_, _, rfl, ⟨_, _, _, _, d1, d2, d3, d4, rfl, F1, F2, F3, F4, rfl, hnd⟩, hBf⟩

theorem both_DepthChecker (a0 : Int) (w0 : (Lit.int .i64 a0).wf = true) : ∃ (rk : Ck) (r1 : Int), BdC rk ∧ (∀ w, Calls Try.prog 24 #[.int .i64 a0] w (PostR CkE rk r1 w)) ∧ (∀ w, Calls Try.prog 25 #[.int .i64 a0] w (PostV CkE rk r1 w)) := by
  by_cases h : 0 ≤ a0 ∧ a0 ≤ 9
  · obtain ⟨m, rfl⟩ : ∃ m : Nat, a0 = (m : Int) := ⟨a0.toNat, by omega⟩
    have hm : m ≤ 9 := by omega
    exact ⟨_, _, depth_bd m hm, fun w => spec_Depth_yes m w hm, fun w => impl_Depth_yes m w hm⟩
  · have h' : a0 < 0 ∨ 9 < a0 := by omega
    exact ⟨_, _, nil_bd, fun w => spec_Depth_no a0 w h', fun w => impl_Depth_no a0 w h'⟩
end Go.Proofs.Ytdehehdcjfaefab
