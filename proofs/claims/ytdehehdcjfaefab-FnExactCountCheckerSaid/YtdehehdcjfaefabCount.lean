/- CountChecker of the program, and both sides. -/
import Derived.Test.YtdehehdcjfaefabBlindC
import Derived.Test.YtdehehdcjfaefabCountS
import Derived.Test.YtdehehdcjfaefabDepth
import Derived.Test.YtdehehdcjfaefabWord
namespace Go.Proofs.Ytdehehdcjfaefab
open Go.RowKit
set_option linter.unusedVariables false

def OneW (s : ByteArray) : Prop := ∃ b : UInt8, s = ⟨#[b]⟩ ∧ 0 ≤ symNo b.toNat
theorem oneW_isW {s : ByteArray} (h : OneW s) : IsW s := by
  obtain ⟨b, rfl, h⟩ := h
  refine ⟨by show 1 ≤ 60; omega, fun x hx => ?_⟩
  have : x = b := by simpa using hx
  rw [this]; exact h
theorem isW_one {s : ByteArray} (h : IsW s) (h1 : s.size = 1) : OneW s := by
  obtain ⟨b, rfl⟩ := byte_one h1
  exact ⟨b, rfl, h.2 b (by simp)⟩

set_option maxHeartbeats 1600000 in
theorem one_yes (b : UInt8) (w : World) (h : 0 ≤ symNo b.toNat) :
    Calls Try.prog 68 #[.string ⟨#[b]⟩] w (TupPost (.tuple #[.int .u8 (symNo b.toNat), .bool true]) w) := by
  have hp := fun w => impl_read_yes ⟨#[b]⟩ w (by show 1 ≤ 60; omega) (oneW_isW ⟨b, rfl, h⟩).2
  have Hp := Lib.hid hp
  clear hp
  go_enter Try.func68, Try.ntmps68
  go_wp2_with fail
  refine (Hp.out _).mono ?_
  rintro e w1 ⟨M, rfl, hsy, hps, hb⟩
  rw [show (⟨#[b]⟩ : ByteArray).size = 1 from rfl] at *
  have hc : w1.cell? ⟨w.heap.size + 1 + 1, 0, none⟩ = some (.int .u8 (symNo b.toNat)) := by
    rw [hsy.cellAt 0 (by omega)]; rfl
  have hlt := (hsy.lt _ rfl).2
  clear hsy hps
  go_wp2
  go_ret2
  exact ⟨rfl, hb.alloc hb.size _⟩
set_option maxHeartbeats 1600000 in
theorem one_no (s : ByteArray) (w : World) (hs : s.size ≤ 1048576) (h : ¬ OneW s) :
    Calls Try.prog 68 #[.string s] w (TupPost (.tuple #[.int .u8 0, .bool false]) w) := by
  by_cases hw : IsW s
  · have hp := fun w => impl_read_yes s w hw.1 hw.2
    have hn1 : s.size ≠ 1 := fun e => h (isW_one hw e)
    have h60 := hw.1
    generalize s.data.toList = l at hp
    have Hp := Lib.hid hp
    clear hp h hw hs
    have hd : decide (s.size = 1) = false := by simpa using hn1
    have hdi : ((s.size : Int) == 1) = false := by
      simp only [beq_eq_false_iff_ne]; omega
    have hdn : ((s.size : Int) != 1) = true := by simp only [bne_iff_ne]; omega
    have hin : ¬ ((s.size : Int) = 1) := by omega
    go_enter Try.func68, Try.ntmps68
    go_wp2_with fail
    refine (Hp.out _).mono ?_
    rintro e w1 ⟨M, rfl, hsy, hps, hb⟩
    clear hsy hps
    go_wp2
    go_ret2
    exact ⟨rfl, hb.alloc hb.size _⟩
  · have Hw := Lib.hid hw
    clear h hw
    go_enter Try.func68, Try.ntmps68
    go_wp2_with fail
    refine (impl_read_no _ _ hs Hw.out).mono ?_
    rintro e w1 ⟨rfl, hb⟩
    go_wp2
    go_ret2
    exact ⟨rfl, hb.alloc hb.size _⟩

theorem count_put {k0 m : Nat} (hm : 1 ≤ m) : { blindPre m m (countTo k0 m) with accept := (blindPre m m (countTo k0 m)).accept.set 0 true } = countCk k0 m := by
  have e : (List.replicate m false).set 0 true = (List.range m).map fun d => decide (d = 0) := by
    apply List.ext_getElem (by simp)
    intro i h1 h2
    rw [List.getElem_set]
    split
    · rename_i h; subst h; simp
    · rename_i h
      simp only [List.getElem_map, List.getElem_range, List.getElem_replicate]
      simpa using Ne.symm h
  simp [blindPre, countCk, plainCk, e]

set_option maxHeartbeats 12800000 in
set_option maxRecDepth 100000 in
theorem impl_counting (k0 m : Nat) (w : World) (h1 : 1 ≤ m) (h2 : m ≤ 40) : Calls Try.prog 69 #[.int .u8 (k0 : Int), .int .i64 (m : Int)] w fun e w' => ∃ v bs, e = .returned v ∧ CkE w.heap.size w' v (countCk k0 m) bs ∧ Below w.heap.size w w' := by
  obtain ⟨Wr, hWr⟩ : ∃ Wr, Wr = ((w.alloc (.cells #[.int .u8 (k0 : Int)] 72)).alloc (.cells #[.int .i64 (m : Int)] 2)).alloc (.cells #[.int .i64 0, .int .i64 0, .slice none 0 0, .slice none 0 0, .slice none 0 0, .slice none 0 0] 31) := ⟨_, rfl⟩
  have hBr : Below w.heap.size w Wr := by rw [hWr]; exact (((Below.refl w.heap.size w).alloc (Nat.le_refl _) _).alloc (by simp) _).alloc (by simp only [World.size_alloc]; omega) _
  have hKb : Bx Wr w.heap.size 72 #[.int .u8 (k0 : Int)] := by rw [hWr]; exact ((Bx.new w _ _).alloc _).alloc _
  have hMb : Bx Wr (w.heap.size + 1) 2 #[.int .i64 (m : Int)] := by
    rw [hWr]
    have t := (Bx.new (w.alloc (.cells #[.int .u8 (k0 : Int)] 72)) 2 #[.int .i64 (m : Int)]).alloc (.cells #[.int .i64 0, .int .i64 0, .slice none 0 0, .slice none 0 0, .slice none 0 0, .slice none 0 0] 31)
    rwa [World.size_alloc] at t
  have hres : Bx Wr (w.heap.size + 1 + 1) 31 #[.int .i64 0, .int .i64 0, .slice none 0 0, .slice none 0 0, .slice none 0 0, .slice none 0 0] := by
    rw [hWr]
    have t := Bx.new ((w.alloc (.cells #[.int .u8 (k0 : Int)] 72)).alloc (.cells #[.int .i64 (m : Int)] 2)) 31 #[.int .i64 0, .int .i64 0, .slice none 0 0, .slice none 0 0, .slice none 0 0, .slice none 0 0]
    rwa [World.size_alloc, World.size_alloc] at t
  have hsz : Wr.heap.size = w.heap.size + 1 + 1 + 1 := by rw [hWr, World.size_alloc, World.size_alloc, World.size_alloc]
  have Hbl := Lib.hid (impl_blindC (k0 := k0) (m := m) (K := w.heap.size) (M := w.heap.size + 1) Wr ⟨h1, h2⟩ (hMb.cell 0 _ rfl) (hKb.cell 0 _ rfl))
  have HBr := Lib.hid hBr
  have HWL := Lib.hid (show w.heap.size + 1 + 1 < Wr.heap.size by omega)
  have HM := Lib.hid (And.intro hres hsz)
  have HW := Lib.hid hWr
  have m0 := hMb.cell 0 _ rfl
  rw [hWr] at m0
  clear hWr hBr hMb hKb hres hsz
  go_enter Try.func69, Try.ntmps69
  go_wp2_with fail
  rw [← HW.out]
  refine Hbl.out.mono ?_
  rintro e w1 ⟨v1, bs1, rfl, hE1, hB1⟩
  obtain ⟨va, vc, vr, vi, d1, d2, d3, d4, rfl, f1, f2, f3, f4, hbs, hnd⟩ := hE1
  obtain ⟨A1, k1, rfl⟩ := RowE.slice f1
  obtain ⟨b, hb⟩ : ∃ b, b = w1.heap.size := ⟨_, rfl⟩
  have hn0 : (blindPre m m (countTo k0 m)).accept.length = m := by simp [blindPre]
  have hst0 : (blindPre m m (countTo k0 m)).stack = 1 ∧ (blindPre m m (countTo k0 m)).start = 0 := ⟨rfl, rfl⟩
  obtain ⟨g, rfl, hg, _⟩ := RowE.head f1 (j := 0) (by omega)
  obtain ⟨C1, kc1, rfl⟩ := ManyE.slice f2
  obtain ⟨R1, kr1, rfl⟩ := ManyE.slice f3
  obtain ⟨I1, ki1, rfl⟩ := ManyE.slice f4
  obtain ⟨lc, hlc⟩ : ∃ l, l = (blindPre m m (countTo k0 m)).call.length := ⟨_, rfl⟩
  obtain ⟨lr, hlr⟩ : ∃ l, l = (blindPre m m (countTo k0 m)).ret.length := ⟨_, rfl⟩
  obtain ⟨li, hli⟩ : ∃ l, l = (blindPre m m (countTo k0 m)).inner.length := ⟨_, rfl⟩
  rw [← hlc] at f2 ⊢
  rw [← hlr] at f3 ⊢
  rw [← hli] at f4 ⊢
  rw [hn0] at f1 ⊢
  rw [hst0.1, hst0.2]
  have hal := (Below.refl w1.heap.size w1).alloc (Nat.le_refl _) (.cells #[.int .i64 1, .int .i64 0, .slice (some ⟨g, 0, none⟩) m k1, .slice C1 lc kc1, .slice R1 lr kr1, .slice I1 li ki1] 31)
  have xb := Bx.new w1 31 #[.int .i64 1, .int .i64 0, .slice (some ⟨g, 0, none⟩) m k1, .slice C1 lc kc1, .slice R1 lr kr1, .slice I1 li ki1]
  obtain ⟨W1, hW1⟩ : ∃ W1, W1 = w1.alloc (.cells #[.int .i64 1, .int .i64 0, .slice (some ⟨g, 0, none⟩) m k1, .slice C1 lc kc1, .slice R1 lr kr1, .slice I1 li ki1] 31) := ⟨_, rfl⟩
  rw [← hW1] at hal xb
  have g1 := (bools_ok _).later f1 hal
  have g2 := (push2_ok _).later f2 hal
  have g3 := (ints3_ok _).later f3 hal
  have g4 := (ints2_ok _).later f4 hal
  have t1 := (bools_ok _).lt f1
  have t2 := (push2_ok _).lt f2
  have t3 := (ints3_ok _).lt f3
  have t4 := (ints2_ok _).lt f4
  rw [hbs] at hnd
  have hlt : ∀ q ∈ d1 ++ (d2 ++ (d3 ++ d4)), Wr.heap.size ≤ q ∧ q < w1.heap.size := by
    intro q hq
    rcases List.mem_append.1 hq with hq | hq
    · exact t1 q hq
    · rcases List.mem_append.1 hq with hq | hq
      · exact t2 q hq
      · rcases List.mem_append.1 hq with hq | hq
        · exact t3 q hq
        · exact t4 q hq
  have hnb : b ∉ d1 ++ (d2 ++ (d3 ++ d4)) := fun hm => by have := (hlt b hm).2; omega
  have hBW : Below Wr.heap.size Wr W1 := hB1.trans (hal.mono hB1.size)
  have hs1 := hB1.size
  obtain ⟨y, hy⟩ : ∃ y, (blindPre m m (countTo k0 m)).accept[0]? = some y := ⟨_, List.getElem?_eq_getElem (by omega)⟩
  have cg : W1.cell? ⟨g, 0, none⟩ = some (.bool y) := BoolsE.cell' g1 hy
  have qg := RowE.frozen g1 0
  have xbb : Bx W1 b 31 #[.int .i64 1, .int .i64 0, .slice (some ⟨g, 0, none⟩) m k1, .slice C1 lc kc1, .slice R1 lr kr1, .slice I1 li ki1] := by rw [hb]; exact xb
  have Hxb := Lib.hid (And.intro xbb (And.intro cg qg))
  have hp := GrownAt.put (c := blindPre m m (countTo k0 m)) (bs := d1 ++ (d2 ++ (d3 ++ d4))) (w0 := W1) (b := b) (by rw [hb]; exact xb) g1 g2 g3 g4 hnd hnb (fun k hk => .inl hk) (Turned.refl _ _) hBW.size 0 true
  rw [count_put h1] at hp
  have HP := Lib.hid hp
  have HR := Lib.hid (And.intro (HM.out.1.later hBW) (And.intro hBW (show w.heap.size + 1 + 1 ∉ b :: (d1 ++ (d2 ++ (d3 ++ d4))) from fun hm => by
    have z := HM.out.2
    rcases List.mem_cons.1 hm with e | hm
    · omega
    · have := (hlt _ hm).1; omega)))
  have HW1 := Lib.hid (show ∀ k ∈ b :: (d1 ++ (d2 ++ (d3 ++ d4))), Wr.heap.size ≤ k from fun k hk => by
    rcases List.mem_cons.1 hk with e | hk
    · omega
    · exact (hlt k hk).1)
  have HX := Lib.hid (And.intro hW1 hb)
  obtain ⟨bs, hbsd⟩ : ∃ bs, bs = d1 ++ (d2 ++ (d3 ++ d4)) := ⟨_, rfl⟩
  rw [← hbsd] at HR HW1 HP
  have hgb : g ≠ b := by rw [hb]; omega
  clear f1 f2 f3 f4 g1 g2 g3 g4 t1 t2 t3 t4 hlt hnb hBW hal xb hbs hnd hbsd hB1 Hbl hs1 hn0 hst0 hW1 hlc hlr hli hp hy cg qg xbb
  go_upto_region 2 with fail
  clear m0
  rw [← HX.out.1, ← HX.out.2]
  clear hb
  obtain ⟨xbb, cg, qg⟩ := Hxb.out
  obtain ⟨e0, e1, e2, e3, e4, e5, el⟩ := id xbb.all6
  clear xbb
  go_upto_region 3 with fail
  clear cg qg e0 e1 e2 e3 e4 e5 Hxb
  have hG := HP.out
  obtain ⟨X, hX⟩ : ∃ X, X = W1.setCell ⟨g, 0, none⟩ (.bool true) := ⟨_, rfl⟩
  rw [← hX] at hG ⊢
  obtain ⟨c9, hc9⟩ : ∃ c9, c9 = countCk k0 m := ⟨_, rfl⟩
  rw [← hc9] at hG
  have H9 := Lib.hid hc9.symm
  have HG9 := Lib.hid hG
  clear hG hc9 HP hX HX hgb
  obtain ⟨⟨bs9, hbx9, hsub9⟩, hT9, hb9⟩ := HG9.out
  obtain ⟨va, vc, vr, vi, d1, d2, d3, d4, xb, f1, f2, f3, f4, rfl, hnd, hnb⟩ := hbx9.ex
  obtain ⟨A5, k5, rfl⟩ := RowE.slice f1
  obtain ⟨C5, kc5, rfl⟩ := ManyE.slice f2
  obtain ⟨R5, kr5, rfl⟩ := ManyE.slice f3
  obtain ⟨I5, ki5, rfl⟩ := ManyE.slice f4
  have xr : Bx X (w.heap.size + 1 + 1) 31 #[.int .i64 0, .int .i64 0, .slice none 0 0, .slice none 0 0, .slice none 0 0, .slice none 0 0] := HR.out.1.same (hT9.block (w.heap.size + 1 + 1) HR.out.1.lt HR.out.2.2)
  have hBX : Below Wr.heap.size Wr X := hT9.below HR.out.2.1 HR.out.2.1.size (fun k hk => HW1.out k hk)
  have Hf := Lib.hid (And.intro f1 (And.intro f2 (And.intro f3 (And.intro f4 (And.intro hnd (And.intro hBX xr))))))
  obtain ⟨z0, z1, z2, z3, z4, z5, zl⟩ := id xb.all6
  obtain ⟨r0, r1, r2, r3, r4, r5, rl⟩ := id xr.all6
  have q0 := xr.frozen 0
  have q1 := xr.frozen 1
  have q2 := xr.frozen 2
  have q3 := xr.frozen 3
  have q4 := xr.frozen 4
  have q5 := xr.frozen 5
  clear f1 f2 f3 f4 hnd hnb hbx9 xr xb hT9 hsub9 hBX
  go_wp2
  obtain ⟨f1, f2, f3, f4, hnd, hBX, xr⟩ := Hf.out
  have hBr0 := HBr.out
  have x5' := (((((xr.set 0 (.int .i64 c9.stack)).set 1 (.int .i64 c9.start)).set 2 (.slice A5 c9.accept.length k5)).set 3 (.slice C5 c9.call.length kc5)).set 4 (.slice R5 c9.ret.length kr5)).set 5 (.slice I5 c9.inner.length ki5)
  have hfr : ∀ (V : World) (i : Nat) (v : Value) (k : Nat), w.heap.size + 1 + 1 < k → (V.setCell ⟨w.heap.size + 1 + 1, i, none⟩ v).heap[k]? = V.heap[k]? := fun V i v k hk => Below.heap_setCell V ⟨w.heap.size + 1 + 1, i, none⟩ v k (fun e => by
    have h2 : k = w.heap.size + 1 + 1 := e
    omega)
  obtain ⟨Wf, hWf⟩ : ∃ Wf, Wf = (((((X.setCell ⟨w.heap.size + 1 + 1, 0, none⟩ (.int .i64 c9.stack)).setCell ⟨w.heap.size + 1 + 1, 1, none⟩ (.int .i64 c9.start)).setCell ⟨w.heap.size + 1 + 1, 2, none⟩ (.slice A5 c9.accept.length k5)).setCell ⟨w.heap.size + 1 + 1, 3, none⟩ (.slice C5 c9.call.length kc5)).setCell ⟨w.heap.size + 1 + 1, 4, none⟩ (.slice R5 c9.ret.length kr5)).setCell ⟨w.heap.size + 1 + 1, 5, none⟩ (.slice I5 c9.inner.length ki5) := ⟨_, rfl⟩
  have hkeep : ∀ k, w.heap.size + 1 + 1 < k → Wf.heap[k]? = X.heap[k]? := fun k hk => by
    rw [hWf, hfr _ _ _ k hk, hfr _ _ _ k hk, hfr _ _ _ k hk, hfr _ _ _ k hk, hfr _ _ _ k hk, hfr _ _ _ k hk]
  have hBf : Below w.heap.size w Wf := by
    rw [hWf]
    exact ((((((hBr0.trans (hBX.mono hBr0.size)).setCell (p := ⟨w.heap.size + 1 + 1, 0, none⟩) (by show w.heap.size ≤ w.heap.size + 1 + 1; omega) _).setCell (p := ⟨w.heap.size + 1 + 1, 1, none⟩) (by show w.heap.size ≤ w.heap.size + 1 + 1; omega) _).setCell (p := ⟨w.heap.size + 1 + 1, 2, none⟩) (by show w.heap.size ≤ w.heap.size + 1 + 1; omega) _).setCell (p := ⟨w.heap.size + 1 + 1, 3, none⟩) (by show w.heap.size ≤ w.heap.size + 1 + 1; omega) _).setCell (p := ⟨w.heap.size + 1 + 1, 4, none⟩) (by show w.heap.size ≤ w.heap.size + 1 + 1; omega) _).setCell (p := ⟨w.heap.size + 1 + 1, 5, none⟩) (by show w.heap.size ≤ w.heap.size + 1 + 1; omega) _
  rw [← hWf] at x5' ⊢
  have hlt0 := HWL.out
  have F1 := bools_base HBr.out.size _ _ _ _ ((bools_ok _).kept f1 fun k hk => hkeep k (by have := ((bools_ok _).lt f1 k hk).1; omega))
  have F2 := pushes2_base HBr.out.size _ _ _ _ ((push2_ok _).kept f2 fun k hk => hkeep k (by have := ((push2_ok _).lt f2 k hk).1; omega))
  have F3 := ints3_base HBr.out.size _ _ _ _ ((ints3_ok _).kept f3 fun k hk => hkeep k (by have := ((ints3_ok _).lt f3 k hk).1; omega))
  have F4 := ints2_base HBr.out.size _ _ _ _ ((ints2_ok _).kept f4 fun k hk => hkeep k (by have := ((ints2_ok _).lt f4 k hk).1; omega))
  have e0 := x5'.cell 0 (.int .i64 c9.stack) rfl
  have e1 := x5'.cell 1 (.int .i64 c9.start) rfl
  have e2 := x5'.cell 2 (.slice A5 c9.accept.length k5) rfl
  have e3 := x5'.cell 3 (.slice C5 c9.call.length kc5) rfl
  have e4 := x5'.cell 4 (.slice R5 c9.ret.length kr5) rfl
  have e5 := x5'.cell 5 (.slice I5 c9.inner.length ki5) rfl
  rw [H9.out]
  exact bodyPost_ret (v := .agg #[.int .i64 c9.stack, .int .i64 c9.start, .slice A5 c9.accept.length k5, .slice C5 c9.call.length kc5, .slice R5 c9.ret.length kr5, .slice I5 c9.inner.length ki5]) (by simp [results, Try.results69, go_sem, e0, e1, e2, e3, e4, e5]) rfl ⟨_, _, rfl, ⟨_, _, _, _, d1, d2, d3, d4, rfl, F1, F2, F3, F4, rfl, hnd⟩, hBf⟩

set_option maxHeartbeats 3200000 in
set_option maxRecDepth 100000 in
theorem impl_Count_no (s : ByteArray) (y : Int) (w : World) (hs : s.size ≤ 1048576) (h : ¬ CountOk s y) : Calls Try.prog 27 #[.string s, .int .i64 y] w (PostV CkE nilCk 2 w) := by
  have hB := (Below.refl w.heap.size w).alloc (Nat.le_refl _) (.cells #[.int .i64 0, .int .i64 0, .slice none 0 0, .slice none 0 0, .slice none 0 0, .slice none 0 0] 31)
  have hx := Bx.new w 31 #[.int .i64 0, .int .i64 0, .slice none 0 0, .slice none 0 0, .slice none 0 0, .slice none 0 0]
  have HB := Lib.hid (And.intro hB hx)
  by_cases h1 : OneW s
  · obtain ⟨q, rfl, h2⟩ := h1
    have h3 : y < 1 ∨ 40 < y := by
      by_cases h4 : 1 ≤ y ∧ y ≤ 40
      · exact absurd ⟨q, rfl, h2, h4.1, h4.2⟩ h
      · omega
    have H1 := Lib.hid (fun W => one_yes q W h2)
    clear h hB hx
    obtain ⟨sn, hsn⟩ : ∃ n, n = symNo q.toNat := ⟨_, rfl⟩
    rw [← hsn] at H1
    clear hsn h2
    by_cases h5 : y < 1
    · clear h3
      go_enter Try.func27, Try.ntmps27
      go_wp2_with fail
      refine (H1.out _).mono ?_
      rintro e w1 ⟨rfl, hb1⟩
      have x1 := HB.out.2.later hb1
      obtain ⟨c0, c1, c2, c3, c4, c5, cl⟩ := id x1.all6
      have q0 := x1.frozen 0
      have q1 := x1.frozen 1
      have q2 := x1.frozen 2
      have q3 := x1.frozen 3
      have q4 := x1.frozen 4
      have q5 := x1.frozen 5
      have hB1 := HB.out.1.trans (hb1.mono HB.out.1.size)
      go_wp2
      have z5 := (((((x1.set 0 (.int .i64 0)).set 1 (.int .i64 0)).set 2 (.slice none 0 0)).set 3 (.slice none 0 0)).set 4 (.slice none 0 0)).set 5 (.slice none 0 0)
      clear c0 c1 c2 c3 c4 c5 q0 q1 q2 q3 q4 q5
      have y0 := z5.cell 0 (.int .i64 0) rfl
      have y1 := z5.cell 1 (.int .i64 0) rfl
      have y2 := z5.cell 2 (.slice none 0 0) rfl
      have y3 := z5.cell 3 (.slice none 0 0) rfl
      have y4 := z5.cell 4 (.slice none 0 0) rfl
      have y5 := z5.cell 5 (.slice none 0 0) rfl
      have hBf := (((((hB1.setCell (p := ⟨w.heap.size, 0, none⟩) (Nat.le_refl _) (.int .i64 0)).setCell (p := ⟨w.heap.size, 1, none⟩) (Nat.le_refl _) (.int .i64 0)).setCell (p := ⟨w.heap.size, 2, none⟩) (Nat.le_refl _) (.slice none 0 0)).setCell (p := ⟨w.heap.size, 3, none⟩) (Nat.le_refl _) (.slice none 0 0)).setCell (p := ⟨w.heap.size, 4, none⟩) (Nat.le_refl _) (.slice none 0 0)).setCell (p := ⟨w.heap.size, 5, none⟩) (Nat.le_refl _) (.slice none 0 0)
      exact bodyPost_ret (v := .tuple #[.agg #[.int .i64 0, .int .i64 0, .slice none 0 0, .slice none 0 0, .slice none 0 0, .slice none 0 0], .int .i64 2]) (by simp [results, Try.results27, go_sem, y0, y1, y2, y3, y4, y5]) rfl ⟨_, [], rfl, nil_ck _ _, hBf⟩
    · have h6 : 40 < y := by omega
      clear h3
      go_enter Try.func27, Try.ntmps27
      go_wp2_with fail
      refine (H1.out _).mono ?_
      rintro e w1 ⟨rfl, hb1⟩
      have x1 := HB.out.2.later hb1
      obtain ⟨c0, c1, c2, c3, c4, c5, cl⟩ := id x1.all6
      have q0 := x1.frozen 0
      have q1 := x1.frozen 1
      have q2 := x1.frozen 2
      have q3 := x1.frozen 3
      have q4 := x1.frozen 4
      have q5 := x1.frozen 5
      have hB1 := HB.out.1.trans (hb1.mono HB.out.1.size)
      go_wp2
      have z5 := (((((x1.set 0 (.int .i64 0)).set 1 (.int .i64 0)).set 2 (.slice none 0 0)).set 3 (.slice none 0 0)).set 4 (.slice none 0 0)).set 5 (.slice none 0 0)
      clear c0 c1 c2 c3 c4 c5 q0 q1 q2 q3 q4 q5
      have y0 := z5.cell 0 (.int .i64 0) rfl
      have y1 := z5.cell 1 (.int .i64 0) rfl
      have y2 := z5.cell 2 (.slice none 0 0) rfl
      have y3 := z5.cell 3 (.slice none 0 0) rfl
      have y4 := z5.cell 4 (.slice none 0 0) rfl
      have y5 := z5.cell 5 (.slice none 0 0) rfl
      have hBf := (((((hB1.setCell (p := ⟨w.heap.size, 0, none⟩) (Nat.le_refl _) (.int .i64 0)).setCell (p := ⟨w.heap.size, 1, none⟩) (Nat.le_refl _) (.int .i64 0)).setCell (p := ⟨w.heap.size, 2, none⟩) (Nat.le_refl _) (.slice none 0 0)).setCell (p := ⟨w.heap.size, 3, none⟩) (Nat.le_refl _) (.slice none 0 0)).setCell (p := ⟨w.heap.size, 4, none⟩) (Nat.le_refl _) (.slice none 0 0)).setCell (p := ⟨w.heap.size, 5, none⟩) (Nat.le_refl _) (.slice none 0 0)
      exact bodyPost_ret (v := .tuple #[.agg #[.int .i64 0, .int .i64 0, .slice none 0 0, .slice none 0 0, .slice none 0 0, .slice none 0 0], .int .i64 2]) (by simp [results, Try.results27, go_sem, y0, y1, y2, y3, y4, y5]) rfl ⟨_, [], rfl, nil_ck _ _, hBf⟩
  · have H1 := Lib.hid (fun W => one_no s W hs h1)
    clear h hB hx h1
    go_enter Try.func27, Try.ntmps27
    go_wp2_with fail
    refine (H1.out _).mono ?_
    rintro e w1 ⟨rfl, hb1⟩
    have x1 := HB.out.2.later hb1
    obtain ⟨c0, c1, c2, c3, c4, c5, cl⟩ := id x1.all6
    have q0 := x1.frozen 0
    have q1 := x1.frozen 1
    have q2 := x1.frozen 2
    have q3 := x1.frozen 3
    have q4 := x1.frozen 4
    have q5 := x1.frozen 5
    have hB1 := HB.out.1.trans (hb1.mono HB.out.1.size)
    go_wp2
    have z5 := (((((x1.set 0 (.int .i64 0)).set 1 (.int .i64 0)).set 2 (.slice none 0 0)).set 3 (.slice none 0 0)).set 4 (.slice none 0 0)).set 5 (.slice none 0 0)
    clear c0 c1 c2 c3 c4 c5 q0 q1 q2 q3 q4 q5
    have y0 := z5.cell 0 (.int .i64 0) rfl
    have y1 := z5.cell 1 (.int .i64 0) rfl
    have y2 := z5.cell 2 (.slice none 0 0) rfl
    have y3 := z5.cell 3 (.slice none 0 0) rfl
    have y4 := z5.cell 4 (.slice none 0 0) rfl
    have y5 := z5.cell 5 (.slice none 0 0) rfl
    have hBf := (((((hB1.setCell (p := ⟨w.heap.size, 0, none⟩) (Nat.le_refl _) (.int .i64 0)).setCell (p := ⟨w.heap.size, 1, none⟩) (Nat.le_refl _) (.int .i64 0)).setCell (p := ⟨w.heap.size, 2, none⟩) (Nat.le_refl _) (.slice none 0 0)).setCell (p := ⟨w.heap.size, 3, none⟩) (Nat.le_refl _) (.slice none 0 0)).setCell (p := ⟨w.heap.size, 4, none⟩) (Nat.le_refl _) (.slice none 0 0)).setCell (p := ⟨w.heap.size, 5, none⟩) (Nat.le_refl _) (.slice none 0 0)
    exact bodyPost_ret (v := .tuple #[.agg #[.int .i64 0, .int .i64 0, .slice none 0 0, .slice none 0 0, .slice none 0 0, .slice none 0 0], .int .i64 2]) (by simp [results, Try.results27, go_sem, y0, y1, y2, y3, y4, y5]) rfl ⟨_, [], rfl, nil_ck _ _, hBf⟩

set_option maxHeartbeats 3200000 in
set_option maxRecDepth 100000 in
theorem impl_Count_yes (q : UInt8) (k0 m : Nat) (w : World) (hk0 : (k0 : Int) = symNo q.toNat) (h1 : 1 ≤ m) (h2 : m ≤ 40) : Calls Try.prog 27 #[.string ⟨#[q]⟩, .int .i64 (m : Int)] w (PostV CkE (countCk k0 m) 0 w) := by
  have hB := (Below.refl w.heap.size w).alloc (Nat.le_refl _) (.cells #[.int .i64 0, .int .i64 0, .slice none 0 0, .slice none 0 0, .slice none 0 0, .slice none 0 0] 31)
  have hx := Bx.new w 31 #[.int .i64 0, .int .i64 0, .slice none 0 0, .slice none 0 0, .slice none 0 0, .slice none 0 0]
  have HB := Lib.hid (And.intro hB hx)
  have H1 := Lib.hid (fun W => one_yes q W (by omega))
  rw [← hk0] at H1
  clear hB hx hk0
  go_enter Try.func27, Try.ntmps27
  go_wp2_with fail
  refine (H1.out _).mono ?_
  rintro e w1 ⟨rfl, hb1⟩
  have HB1 := Lib.hid (And.intro (HB.out.1.trans (hb1.mono HB.out.1.size)) (HB.out.2.later hb1))
  clear hb1
  go_wp2_with fail
  refine (impl_counting k0 m _ h1 h2).mono ?_
  rintro e w2 ⟨v2, bs2, rfl, hE, hb2⟩
  obtain ⟨va, vc, vr, vi, d1, d2, d3, d4, rfl, f1, f2, f3, f4, hbs, hnd⟩ := hE
  obtain ⟨A5, k5, rfl⟩ := RowE.slice f1
  obtain ⟨C5, kc5, rfl⟩ := ManyE.slice f2
  obtain ⟨R5, kr5, rfl⟩ := ManyE.slice f3
  obtain ⟨I5, ki5, rfl⟩ := ManyE.slice f4
  obtain ⟨c9, hc9⟩ : ∃ c9, c9 = countCk k0 m := ⟨_, rfl⟩
  rw [← hc9] at f1 f2 f3 f4 ⊢
  have H9 := Lib.hid hc9.symm
  have xr := HB1.out.2.later hb2
  have hBX := HB1.out.1.trans (hb2.mono HB1.out.1.size)
  have hlw := HB1.out.2.lt
  have Hf := Lib.hid (And.intro f1 (And.intro f2 (And.intro f3 (And.intro f4 (And.intro (hbs ▸ hnd) (And.intro hBX xr))))))
  obtain ⟨r0, r1, r2, r3, r4, r5, rl⟩ := id xr.all6
  have q0 := xr.frozen 0
  have q1 := xr.frozen 1
  have q2 := xr.frozen 2
  have q3 := xr.frozen 3
  have q4 := xr.frozen 4
  have q5 := xr.frozen 5
  clear f1 f2 f3 f4 hnd hbs xr hBX hb2 hc9
  go_wp2
  obtain ⟨f1, f2, f3, f4, hnd, hBX, xr⟩ := Hf.out
  have hlw0 : w.heap.size < w1.heap.size := hlw
  have x5' := (((((xr.set 0 (.int .i64 c9.stack)).set 1 (.int .i64 c9.start)).set 2 (.slice A5 c9.accept.length k5)).set 3 (.slice C5 c9.call.length kc5)).set 4 (.slice R5 c9.ret.length kr5)).set 5 (.slice I5 c9.inner.length ki5)
  have hfr : ∀ (V : World) (i : Nat) (v : Value) (k : Nat), w.heap.size < k → (V.setCell ⟨w.heap.size, i, none⟩ v).heap[k]? = V.heap[k]? := fun V i v k hk => Below.heap_setCell V ⟨w.heap.size, i, none⟩ v k (fun e => by
    have h2 : k = w.heap.size := e
    omega)
  obtain ⟨Wf, hWf⟩ : ∃ Wf, Wf = (((((w2.setCell ⟨w.heap.size, 0, none⟩ (.int .i64 c9.stack)).setCell ⟨w.heap.size, 1, none⟩ (.int .i64 c9.start)).setCell ⟨w.heap.size, 2, none⟩ (.slice A5 c9.accept.length k5)).setCell ⟨w.heap.size, 3, none⟩ (.slice C5 c9.call.length kc5)).setCell ⟨w.heap.size, 4, none⟩ (.slice R5 c9.ret.length kr5)).setCell ⟨w.heap.size, 5, none⟩ (.slice I5 c9.inner.length ki5) := ⟨_, rfl⟩
  have hkeep : ∀ k, w.heap.size < k → Wf.heap[k]? = w2.heap[k]? := fun k hk => by
    rw [hWf, hfr _ _ _ k hk, hfr _ _ _ k hk, hfr _ _ _ k hk, hfr _ _ _ k hk, hfr _ _ _ k hk, hfr _ _ _ k hk]
  have hBf : Below w.heap.size w Wf := by
    rw [hWf]
    exact (((((hBX.setCell (p := ⟨w.heap.size, 0, none⟩) (Nat.le_refl _) _).setCell (p := ⟨w.heap.size, 1, none⟩) (Nat.le_refl _) _).setCell (p := ⟨w.heap.size, 2, none⟩) (Nat.le_refl _) _).setCell (p := ⟨w.heap.size, 3, none⟩) (Nat.le_refl _) _).setCell (p := ⟨w.heap.size, 4, none⟩) (Nat.le_refl _) _).setCell (p := ⟨w.heap.size, 5, none⟩) (Nat.le_refl _) _
  rw [← hWf] at x5' ⊢
  have F1 := bools_base (Nat.le_of_lt hlw0) _ _ _ _ ((bools_ok _).kept f1 fun k hk => hkeep k (by have := ((bools_ok _).lt f1 k hk).1; omega))
  have F2 := pushes2_base (Nat.le_of_lt hlw0) _ _ _ _ ((push2_ok _).kept f2 fun k hk => hkeep k (by have := ((push2_ok _).lt f2 k hk).1; omega))
  have F3 := ints3_base (Nat.le_of_lt hlw0) _ _ _ _ ((ints3_ok _).kept f3 fun k hk => hkeep k (by have := ((ints3_ok _).lt f3 k hk).1; omega))
  have F4 := ints2_base (Nat.le_of_lt hlw0) _ _ _ _ ((ints2_ok _).kept f4 fun k hk => hkeep k (by have := ((ints2_ok _).lt f4 k hk).1; omega))
  have e0 := x5'.cell 0 (.int .i64 c9.stack) rfl
  have e1 := x5'.cell 1 (.int .i64 c9.start) rfl
  have e2 := x5'.cell 2 (.slice A5 c9.accept.length k5) rfl
  have e3 := x5'.cell 3 (.slice C5 c9.call.length kc5) rfl
  have e4 := x5'.cell 4 (.slice R5 c9.ret.length kr5) rfl
  have e5 := x5'.cell 5 (.slice I5 c9.inner.length ki5) rfl
  rw [H9.out]
  exact bodyPost_ret (v := .tuple #[.agg #[.int .i64 c9.stack, .int .i64 c9.start, .slice A5 c9.accept.length k5, .slice C5 c9.call.length kc5, .slice R5 c9.ret.length kr5, .slice I5 c9.inner.length ki5], .int .i64 0]) (by simp [results, Try.results27, go_sem, e0, e1, e2, e3, e4, e5]) rfl ⟨_, _, rfl, ⟨_, _, _, _, d1, d2, d3, d4, rfl, F1, F2, F3, F4, rfl, hnd⟩, hBf⟩

theorem both_CountChecker (a0 : ByteArray) (a1 : Int) (hs0 : a0.size ≤ 1048576) (w1 : (Lit.int .i64 a1).wf = true) : ∃ (rk : Ck) (r1 : Int), BdC rk ∧ (∀ w, Calls Try.prog 26 #[.string a0, .int .i64 a1] w (PostR CkE rk r1 w)) ∧ (∀ w, Calls Try.prog 27 #[.string a0, .int .i64 a1] w (PostV CkE rk r1 w)) := by
  by_cases h : CountOk a0 a1
  · obtain ⟨q, rfl, h2, h3, h4⟩ := h
    obtain ⟨m, rfl⟩ : ∃ m : Nat, a1 = (m : Int) := ⟨a1.toNat, by omega⟩
    obtain ⟨k0, hk0⟩ : ∃ k : Nat, (k : Int) = symNo q.toNat := ⟨(symNo q.toNat).toNat, by omega⟩
    exact ⟨_, _, count_bd k0 m (by omega), fun w => spec_Count_yes q k0 m w hk0 (by omega) (by omega), fun w => impl_Count_yes q k0 m w hk0 (by omega) (by omega)⟩
  · exact ⟨_, _, nil_bd, fun w => spec_Count_no a0 a1 w hs0 h, fun w => impl_Count_no a0 a1 w hs0 h⟩
end Go.Proofs.Ytdehehdcjfaefab
