/- withStates of the program. -/
import Derived.Test.YtdehehdcjfaefabWith2
import Derived.Laws.EntriesVeiled
namespace Go.Proofs.Ytdehehdcjfaefab
open Go.RowKit
set_option linter.unusedVariables false

/-- The new numbers behind the first k of a list. -/
def numsT (n : Nat) (list : List Int) : Nat → List Int
  | 0 => List.replicate n 0
  | k + 1 => (numsT n list k).set ((list.getD k 0).toNat) (k : Int)
theorem numsT_len (n : Nat) (list : List Int) : ∀ k, (numsT n list k).length = n
  | 0 => by simp [numsT]
  | k + 1 => by simp [numsT, numsT_len n list k]
def numsA (n : Nat) (list : List Int) (k : Nat) : Array Value := ((numsT n list k).map fun x => Value.int .i64 x).toArray
theorem numsA_size (n : Nat) (list : List Int) (k : Nat) : (numsA n list k).size = n := by simp [numsA, numsT_len]
theorem numsA_zero (n : Nat) (list : List Int) : numsA n list 0 = Array.replicate n (.int .i64 0) := by
  simp [numsA, numsT]
theorem numsA_succ {n : Nat} {list : List Int} {k : Nat} {x : Nat} (hx : list[k]? = some (x : Int)) : numsA n list (k + 1) = (numsA n list k).setIfInBounds x (.int .i64 k) := by
  simp only [numsA, numsT, List.getD_eq_getElem?_getD, hx, Option.getD_some, Int.toNat_natCast, List.setIfInBounds_toArray]
  rw [List.map_set]
/-- A checker with some of its states alone. -/
def wsC (c : Ck) (list : List Int) : Ck :=
  let nums := numsT c.accept.length list list.length
  { stack := c.stack, start := numAt nums c.start, accept := list.map fun s => c.accept.getD s.toNat false, call := list.map fun s => (c.call.getD s.toNat []).map (numP nums),
    ret := list.map fun s => (c.ret.getD s.toNat []).map fun y => y.map (numAt nums), inner := list.map fun s => (c.inner.getD s.toNat []).map (numAt nums) }
/-- A checker whose moves lead to states. -/
structure GoesIn (c : Ck) : Prop where
  n : c.accept.length ≤ 40
  start : 0 ≤ c.start ∧ c.start < c.accept.length
  lc : c.call.length = c.accept.length
  lr : c.ret.length = c.accept.length
  li : c.inner.length = c.accept.length
  call : ∀ x ∈ c.call, InP c.accept.length x
  ret : ∀ x ∈ c.ret, ∀ y ∈ x, InL c.accept.length y
  inner : ∀ x ∈ c.inner, InL c.accept.length x
theorem madeCells_eq (n : Nat) : madeCells #[.int .i64 0] n = Array.replicate n (.int .i64 0) := by
  apply Array.toList_inj.1
  rw [toList_madeCells_one]
  simp

theorem cf3 (args : Array Value) (w : World) : (callFunc 87 args).run Try.prog w = .ok (.enter 87 args) w :=
  enters (fn := Try.f87) (by kernel_rfl) (by kernel_rfl) rfl args w
theorem cf4 (args : Array Value) (w : World) : (callFunc 89 args).run Try.prog w = .ok (.enter 89 args) w :=
  enters (fn := Try.f89) (by kernel_rfl) (by kernel_rfl) rfl args w
theorem cf5 (args : Array Value) (w : World) : (callFunc 93 args).run Try.prog w = .ok (.enter 93 args) w :=
  enters (fn := Try.f93) (by kernel_rfl) (by kernel_rfl) rfl args w
theorem cf6 (args : Array Value) (w : World) : (callFunc 96 args).run Try.prog w = .ok (.enter 96 args) w :=
  enters (fn := Try.f96) (by kernel_rfl) (by kernel_rfl) rfl args w
set_option maxHeartbeats 6400000 in
set_option maxRecDepth 100000 in
theorem impl_withStates {base b : Nat} {v u : Value} {c : Ck} {list : List Int} {bs bl : List Nat} (w : World) (hbd : BdC c) (hg : GoesIn c) (hck : CkE base w v c bs) (hl : IntsE b w u list bl) (hll : list.length ≤ 40) (hin : InL c.accept.length list) :
    Calls Try.prog 44 #[v, u] w (NewPost CkE (wsC c list) w) := by
  obtain ⟨va, vc, vr, vi, b1, b2, b3, b4, rfl, h1, h2, h3, h4, _, _⟩ := hck
  obtain ⟨i0, hi, hz0, hz1, hz2⟩ := info_parts toInfo_i64
  obtain ⟨A, ka, rfl⟩ := RowE.slice h1
  obtain ⟨L, kl, rfl⟩ := RowE.slice hl
  obtain ⟨n, hn⟩ : ∃ n, n = c.accept.length := ⟨_, rfl⟩
  obtain ⟨m, hm⟩ : ∃ m, m = list.length := ⟨_, rfl⟩
  have hn40 := hg.n
  rw [← hn] at h1 hn40 hin ⊢
  rw [← hm] at hl hll ⊢
  obtain ⟨H, hH⟩ : ∃ H, H = w.heap.size := ⟨_, rfl⟩
  have x1 := Bx.new w 31 #[.int .i64 c.stack, .int .i64 c.start, .slice A n ka, vc, vr, vi]
  have Hgo := Lib.hid hg
  have Hbd := Lib.hid hbd
  have H1 := Lib.hid h1
  have H2 := Lib.hid h2
  have H3 := Lib.hid h3
  have H4 := Lib.hid h4
  have Hl := Lib.hid hl
  have Hn := Lib.hid hn
  have Hm := Lib.hid hm
  have Hin := Lib.hid hin
  clear hg hbd h1 h2 h3 h4 hl hn hm hin hH
  obtain ⟨y0, y1, y2, y3, y4, y5, yl⟩ := x1.all6
  go_enter Try.func44, Try.ntmps44
  go_wp2_with (refine wpList_make_row _ rfl _ _ 38 rfl 2 i0 (.int .i64 0) Try.underlying38 hi hz0 hz1 rfl .i64 .i64 n rfl rfl ?b2 ?b3 ?_)
  case b2 => rw [hz2]; omega
  case b3 => omega
  rw [madeCells_eq, ← numsA_zero n list]
  obtain ⟨W, hW⟩ : ∃ W, W = (((w.alloc (.cells #[.int .i64 c.stack, .int .i64 c.start, .slice A n ka, vc, vr, vi] 31)).alloc (.cells #[.int .i64 0, .int .i64 0, .slice none 0 0, .slice none 0 0, .slice none 0 0, .slice none 0 0] 31)).alloc (.cells (numsA n list 0) 2)).alloc (.cells #[.slice (some ⟨w.heap.size + 1 + 1, 0, none⟩) n n] 38) := ⟨_, rfl⟩
  have z1 : Bx W w.heap.size 31 #[.int .i64 c.stack, .int .i64 c.start, .slice A n ka, vc, vr, vi] := by rw [hW]; exact ((x1.alloc _).alloc _).alloc _
  have z2 : Bx W (w.heap.size + 1) 31 #[.int .i64 0, .int .i64 0, .slice none 0 0, .slice none 0 0, .slice none 0 0, .slice none 0 0] := by
    rw [hW]
    have t := ((Bx.new (w.alloc (.cells #[.int .i64 c.stack, .int .i64 c.start, .slice A n ka, vc, vr, vi] 31)) 31 #[.int .i64 0, .int .i64 0, .slice none 0 0, .slice none 0 0, .slice none 0 0, .slice none 0 0]).alloc (.cells (numsA n list 0) 2)).alloc (.cells #[.slice (some ⟨w.heap.size + 1 + 1, 0, none⟩) n n] 38)
    simpa using t
  have z3 : Bx W (w.heap.size + 1 + 1) 2 (numsA n list 0) := by
    rw [hW]
    have t := (Bx.new ((w.alloc (.cells #[.int .i64 c.stack, .int .i64 c.start, .slice A n ka, vc, vr, vi] 31)).alloc (.cells #[.int .i64 0, .int .i64 0, .slice none 0 0, .slice none 0 0, .slice none 0 0, .slice none 0 0] 31)) 2 (numsA n list 0)).alloc (.cells #[.slice (some ⟨w.heap.size + 1 + 1, 0, none⟩) n n] 38)
    simpa using t
  have z4 : Bx W (w.heap.size + 1 + 1 + 1) 38 #[.slice (some ⟨w.heap.size + 1 + 1, 0, none⟩) n n] := by
    rw [hW]
    have t := (Bx.new (((w.alloc (.cells #[.int .i64 c.stack, .int .i64 c.start, .slice A n ka, vc, vr, vi] 31)).alloc (.cells #[.int .i64 0, .int .i64 0, .slice none 0 0, .slice none 0 0, .slice none 0 0, .slice none 0 0] 31)).alloc (.cells (numsA n list 0) 2)) 38 #[.slice (some ⟨w.heap.size + 1 + 1, 0, none⟩) n n])
    simpa using t
  have zB : Below w.heap.size w W := by rw [hW]; exact ((((Below.refl _ _).alloc (Nat.le_refl _) _).alloc (by simp) _).alloc (by simp; omega) _).alloc (by simp; omega) _
  have HZ := Lib.hid (And.intro z1 (And.intro z2 (And.intro z3 (And.intro z4 zB))))
  have HW := Lib.hid hW
  clear z1 z2 z3 z4 zB x1 y0 y1 y2 y3 y4 y5 yl hW
  go_wp2_with fail
  rw [← HW.out]
  go_loopw [16] (fun i wr => ∃ j : Nat, j ≤ m ∧ i = .int .i64 j ∧ Bx wr w.heap.size 31 #[.int .i64 c.stack, .int .i64 c.start, .slice A n ka, vc, vr, vi] ∧ Bx wr (w.heap.size + 1) 31 #[.int .i64 0, .int .i64 0, .slice none 0 0, .slice none 0 0, .slice none 0 0, .slice none 0 0] ∧ Bx wr (w.heap.size + 1 + 1) 2 (numsA n list j) ∧ Bx wr (w.heap.size + 1 + 1 + 1) 38 #[.slice (some ⟨w.heap.size + 1 + 1, 0, none⟩) n n] ∧ Below w.heap.size w wr) (fun i _ => m - (intOf i).toNat)
  case atStart => exact ⟨0, Nat.zero_le _, rfl, HZ.out⟩
  case round =>
    obtain ⟨j, hj, rfl, z1, z2, z3, z4, zB⟩ := hrel
    by_cases hlt : j < m
    · obtain ⟨x, hx⟩ : ∃ x, list[j]? = some x := ⟨_, List.getElem?_eq_getElem (by rw [← Hm.out]; exact hlt)⟩
      obtain ⟨hx0, hxn⟩ := Hin.out x (List.mem_of_getElem? hx)
      obtain ⟨k, rfl⟩ := Int.eq_ofNat_of_zero_le hx0
      have hkn : k < n := by omega
      have hlw := (ints_ok _).later Hl.out zB
      obtain ⟨g, rfl, hg, _⟩ := RowE.head hlw (by rw [← Hm.out]; exact hlt)
      have hc : wr.cell? ⟨g, j, none⟩ = _ := IntsE.cell' hlw hx
      obtain ⟨v0, hv0⟩ : ∃ v0, (numsA n list j)[k]? = some v0 := ⟨_, Array.getElem?_eq_getElem (by rw [numsA_size]; exact hkn)⟩
      have e1 := z3.cell k v0 hv0
      have e2 := z3.frozen k
      have e3 := z4.cell 0 _ rfl
      have hy := z3.set k (.int .i64 j)
      rw [← numsA_succ hx] at hy
      have Hy := Lib.hid (And.intro (z1.other (b := w.heap.size + 1 + 1) k (.int .i64 j) (by omega)) (And.intro (z2.other (b := w.heap.size + 1 + 1) k (.int .i64 j) (by omega)) (And.intro hy (And.intro (z4.other (b := w.heap.size + 1 + 1) k (.int .i64 j) (by omega)) (zB.setCell (p := ⟨w.heap.size + 1 + 1, k, none⟩) (by simp; omega) (.int .i64 j))))))
      clear hx hlw hy hv0 z1 z2 z3 z4 zB hx0
      go_wp2
      go_roundw
      case rel => exact ⟨j + 1, by omega, by go_num, Hy.out⟩
      case measure => simp [intOf]; omega
    · have e : j = m := by omega
      subst e
      have hgo := Hgo.out
      have hnl : (numsT n list j).length = c.accept.length := by rw [numsT_len, Hn.out]
      have hrow : IntsE w.heap.size wr (.slice (some ⟨w.heap.size + 1 + 1, 0, none⟩) n n) (numsT n list j) [w.heap.size + 1 + 1] :=
        rowE_lit n z3 (by omega) (numsT_len _ _ _) (by simp [numsA, List.map_eq_flatMap]) (by rw [numsA_size]; omega) (by unfold maxLen; omega)
      obtain ⟨Wr, hWr⟩ : ∃ Wr, Wr = ((wr.alloc (.cells #[.func (.func 83) #[] #[.pointer (some ⟨w.heap.size + 1 + 1 + 1, 0, none⟩)]] 99)).alloc (.cells #[.func (.func 84) #[] #[.pointer (some ⟨wr.heap.size, 0, none⟩)]] 95)) := ⟨_, rfl⟩
      have hbr : Below wr.heap.size wr Wr := by rw [hWr]; exact ((Below.refl _ _).alloc (Nat.le_refl _) _).alloc (by simp) _
      have hWs : WsAt Wr c base w.heap.size (.slice A n ka) vc vr vi (.slice (some ⟨w.heap.size + 1 + 1, 0, none⟩) n n) b1 b2 b3 b4 [w.heap.size + 1 + 1] (numsT n list j) w.heap.size (w.heap.size + 1 + 1 + 1) wr.heap.size (wr.heap.size + 1) := by
        have hB := zB.trans (hbr.mono zB.size)
        refine ⟨(bools_ok _).later H1.out hB, (push2_ok _).later H2.out hB, (ints3_ok _).later H3.out hB, (ints2_ok _).later H4.out hB, z1.later hbr, (ints_ok _).later hrow hbr, cell_later (z4.cell 0 _ rfl) hbr, ?_, ?_⟩
        · rw [hWr]; exact ((Bx.new wr 99 #[.func (.func 83) #[] #[.pointer (some ⟨w.heap.size + 1 + 1 + 1, 0, none⟩)]]).alloc _).cell 0 _ rfl
        · rw [hWr]
          have t := (Bx.new (wr.alloc (.cells #[.func (.func 83) #[] #[.pointer (some ⟨w.heap.size + 1 + 1 + 1, 0, none⟩)]] 99)) 95 #[.func (.func 84) #[] #[.pointer (some ⟨wr.heap.size, 0, none⟩)]]).cell 0 _ rfl
          rw [World.size_alloc] at t
          exact t
      have hres := z2.later hbr
      have hBr := zB.trans (hbr.mono zB.size)
      have hlr := (ints_ok _).later Hl.out hBr
      have HWr := Lib.hid hWr
      have HR := Lib.hid (And.intro hWs (And.intro hres (And.intro hBr (And.intro hlr hnl))))
      obtain ⟨y0, y1, y2, y3, y4, y5, yl⟩ := z1.all6
      clear hWr hbr hWs hres hBr hlr hrow hnl hgo z1 z2 z3 z4 zB
      go_wp2_with fail
      rw [← HWr.out]
      obtain ⟨hWs, hres, hBr, hlr, hnl⟩ := HR.out
      refine wp_region_free_last (by kernel_rfl) [
        .val [] (fun _ => .pointer (some ⟨w.heap.size, 0, none⟩)), .val [] (fun _ => .int .i64 c.stack),
        .val [] (fun _ => .func (.func 83) #[] #[.pointer (some ⟨w.heap.size + 1 + 1 + 1, 0, none⟩)]),
        .val [] (fun _ => .pointer (some ⟨w.heap.size, 1, none⟩)), .val [] (fun _ => .int .i64 c.start), .val [] (fun _ => .int .i64 (numAt (numsT n list j) c.start)),
        .val [] (fun _ => .slice L j kl), .val [] (fun _ => .func (.func 87) #[] #[.pointer (some ⟨w.heap.size, 0, none⟩)]), .own (BoolsE Wr.heap.size) (list.map fun s => c.accept.getD s.toNat false),
        .val [] (fun _ => .slice L j kl), .val [] (fun _ => .func (.func 89) #[] #[.pointer (some ⟨w.heap.size, 0, none⟩), .pointer (some ⟨wr.heap.size, 0, none⟩)]), .own (Push2E Wr.heap.size) (list.map fun s => (c.call.getD s.toNat []).map (numP (numsT n list j))),
        .val [] (fun _ => .slice L j kl), .val [] (fun _ => .func (.func 93) #[] #[.pointer (some ⟨w.heap.size, 0, none⟩), .pointer (some ⟨wr.heap.size + 1, 0, none⟩)]), .own (Ints3E Wr.heap.size) (list.map fun s => (c.ret.getD s.toNat []).map fun y => y.map (numAt (numsT n list j))),
        .val [] (fun _ => .slice L j kl), .val [] (fun _ => .func (.func 96) #[] #[.pointer (some ⟨wr.heap.size + 1, 0, none⟩), .pointer (some ⟨w.heap.size, 0, none⟩)]), .own (Ints2E Wr.heap.size) (list.map fun s => (c.inner.getD s.toNat []).map (numAt (numsT n list j))),
        .val [1, 5, 8, 11, 14, 17] (fun u => .agg #[u 1, u 5, u 8, u 11, u 14, u 17])] ?hp ?hfw ?deps ?oks ?hl ?hpos ?steps
      case hp => kernel_rfl
      case hfw => kernel_rfl
      case deps => kernel_rfl
      case hl => kernel_rfl
      case hpos => kernel_rfl
      case oks =>
        intro F hF
        simp only [List.mem_cons, List.not_mem_nil, or_false] at hF
        rcases hF with rfl | rfl | rfl | rfl | rfl | rfl | rfl | rfl | rfl | rfl | rfl | rfl | rfl | rfl | rfl | rfl | rfl | rfl | rfl
        all_goals first | trivial | exact ⟨_, bools_ok _⟩ | exact ⟨_, push2_ok _⟩ | exact ⟨_, ints3_ok _⟩ | exact ⟨_, ints2_ok _⟩
      case steps =>
        have hm40 : list.length ≤ 1048576 := by rw [← Hm.out]; omega
        have hnn : (numsT n list j).length ≤ 1048576 := by rw [numsT_len]; omega
        have ha40 : c.accept.length ≤ 1048576 := by rw [← Hn.out]; omega
        have hgo := Hgo.out
        have hin' : ∀ x ∈ list, 0 ≤ x ∧ x < (c.accept.length : Int) := fun x hx => by have := Hin.out x hx; rw [← Hn.out]; exact this
        refine StepsL.cons ?_ ?_
        · refine FreeStep.val [] _ rfl rfl fun u β W hW hn fr hfr K hK => ?_
          simp only [frameL, putL, Act.put, List.setIfInBounds_toArray, List.set_cons_zero, List.set_cons_succ, Nat.zero_add, Nat.reduceAdd] at hfr
          subst hfr
          have HK := Lib.hid hK
          clear hK hn
          clear hm40 hnn ha40 hgo hin' hWs hlr hnl hres
          go_simp
          exact HK.out
        refine StepsL.cons ?_ ?_
        · refine FreeStep.val [] _ rfl rfl fun u β W hW hn fr hfr K hK => ?_
          simp only [frameL, putL, Act.put, List.setIfInBounds_toArray, List.set_cons_zero, List.set_cons_succ, Nat.zero_add, Nat.reduceAdd] at hfr
          subst hfr
          have e0 : u 0 = .pointer (some ⟨w.heap.size, 0, none⟩) := Have.get (k := 0) hn rfl
          simp only [e0] at hK
          have c0 : W.cell? ⟨w.heap.size, 0, none⟩ = some (.int .i64 c.stack) := (hWs.box.later hW).cell 0 _ rfl
          have HK := Lib.hid hK
          clear hK hn
          clear hm40 hnn ha40 hgo hin' hWs hlr hnl hres
          go_simp
          exact HK.out
        refine StepsL.cons ?_ ?_
        · refine FreeStep.val [] _ rfl rfl fun u β W hW hn fr hfr K hK => ?_
          simp only [frameL, putL, Act.put, List.setIfInBounds_toArray, List.set_cons_zero, List.set_cons_succ, Nat.zero_add, Nat.reduceAdd] at hfr
          subst hfr
          have c0 := cell_later hWs.t8 hW
          have HK := Lib.hid hK
          clear hK hn
          clear hm40 hnn ha40 hgo hin' hWs hlr hnl hres
          go_simp
          exact HK.out
        refine StepsL.cons ?_ ?_
        · refine FreeStep.val [] _ rfl rfl fun u β W hW hn fr hfr K hK => ?_
          simp only [frameL, putL, Act.put, List.setIfInBounds_toArray, List.set_cons_zero, List.set_cons_succ, Nat.zero_add, Nat.reduceAdd] at hfr
          subst hfr
          have HK := Lib.hid hK
          clear hK hn
          clear hm40 hnn ha40 hgo hin' hWs hlr hnl hres
          go_simp
          exact HK.out
        refine StepsL.cons ?_ ?_
        · refine FreeStep.val [] _ rfl rfl fun u β W hW hn fr hfr K hK => ?_
          simp only [frameL, putL, Act.put, List.setIfInBounds_toArray, List.set_cons_zero, List.set_cons_succ, Nat.zero_add, Nat.reduceAdd] at hfr
          subst hfr
          have e3 : u 3 = .pointer (some ⟨w.heap.size, 1, none⟩) := Have.get (k := 3) hn rfl
          simp only [e3] at hK
          have c0 : W.cell? ⟨w.heap.size, 1, none⟩ = some (.int .i64 c.start) := (hWs.box.later hW).cell 1 _ rfl
          have HK := Lib.hid hK
          clear hK hn
          clear hm40 hnn ha40 hgo hin' hWs hlr hnl hres
          go_simp
          exact HK.out
        refine StepsL.cons ?_ ?_
        · refine FreeStep.calm [] _ rfl rfl fun u β W hW hn fr hfr K hK => ?_
          simp only [frameL, putL, Act.put, List.setIfInBounds_toArray, List.set_cons_zero, List.set_cons_succ, Nat.zero_add, Nat.reduceAdd] at hfr
          subst hfr
          have e2 : u 2 = .func (.func 83) #[] #[.pointer (some ⟨w.heap.size + 1 + 1 + 1, 0, none⟩)] := Have.get (k := 2) hn rfl
          have e4 : u 4 = .int .i64 c.start := Have.get (k := 4) hn rfl
          simp only [e2, e4] at hK
          have Q := Lib.hid (ws1 c.start W (hWs.later hW) hnn (by rw [hnl]; exact hgo.start))
          have HK := Lib.hid hK
          clear hK hn
          clear hm40 hnn ha40 hgo hin' hWs hlr hnl hres
          go_simp
          refine Q.out.mono ?_
          rintro e w1 ⟨rfl, hb1⟩
          exact HK.out w1 hb1
        refine StepsL.cons ?_ ?_
        · refine FreeStep.val [] _ rfl rfl fun u β W hW hn fr hfr K hK => ?_
          simp only [frameL, putL, Act.put, List.setIfInBounds_toArray, List.set_cons_zero, List.set_cons_succ, Nat.zero_add, Nat.reduceAdd] at hfr
          subst hfr
          have HK := Lib.hid hK
          clear hK hn
          clear hm40 hnn ha40 hgo hin' hWs hlr hnl hres
          go_simp
          exact HK.out
        refine StepsL.cons ?_ ?_
        · refine FreeStep.val [] _ rfl rfl fun u β W hW hn fr hfr K hK => ?_
          simp only [frameL, putL, Act.put, List.setIfInBounds_toArray, List.set_cons_zero, List.set_cons_succ, Nat.zero_add, Nat.reduceAdd] at hfr
          subst hfr
          have HK := Lib.hid hK
          clear hK hn
          clear hm40 hnn ha40 hgo hin' hWs hlr hnl hres
          go_simp
          exact HK.out
        refine StepsL.cons ?_ ?_
        · refine FreeStep.own (base := Wr.heap.size) rfl (bools_ok _) fun u β W hW hn fr hfr K hK => ?_
          simp only [frameL, putL, Act.put, List.setIfInBounds_toArray, List.set_cons_zero, List.set_cons_succ, Nat.zero_add, Nat.reduceAdd] at hfr
          subst hfr
          have e6 : u 6 = .slice L j kl := Have.get (k := 6) hn rfl
          have e7 : u 7 = .func (.func 87) #[] #[.pointer (some ⟨w.heap.size, 0, none⟩)] := Have.get (k := 7) hn rfl
          simp only [e6, e7] at hK
          have Q := Lib.hid (mapped_int_bool W (fun s => c.accept.getD s.toNat false) 87 #[.pointer (some ⟨w.heap.size, 0, none⟩)] cf3 hm40 ((ints_ok _).later hlr hW) (fun x hx W' hW' => ws3 x W' (hWs.later (hW.trans (hW'.mono hW.size))) ha40 (hin' x hx)))
          have HK := Lib.hid hK
          clear hK hn
          clear hm40 hnn ha40 hgo hin' hWs hlr hnl hres
          go_simp
          refine Q.out.mono ?_
          rintro e w1 ⟨v1, bs1, rfl, E1, hb1⟩
          exact HK.out v1 bs1 w1 hb1 (bools_base hW.size _ _ _ _ E1) (fun b hb => ((bools_ok _).lt E1 b hb).1)
        refine StepsL.cons ?_ ?_
        · refine FreeStep.val [] _ rfl rfl fun u β W hW hn fr hfr K hK => ?_
          simp only [frameL, putL, Act.put, List.setIfInBounds_toArray, List.set_cons_zero, List.set_cons_succ, Nat.zero_add, Nat.reduceAdd] at hfr
          subst hfr
          have HK := Lib.hid hK
          clear hK hn
          clear hm40 hnn ha40 hgo hin' hWs hlr hnl hres
          go_simp
          exact HK.out
        refine StepsL.cons ?_ ?_
        · refine FreeStep.val [] _ rfl rfl fun u β W hW hn fr hfr K hK => ?_
          simp only [frameL, putL, Act.put, List.setIfInBounds_toArray, List.set_cons_zero, List.set_cons_succ, Nat.zero_add, Nat.reduceAdd] at hfr
          subst hfr
          have HK := Lib.hid hK
          clear hK hn
          clear hm40 hnn ha40 hgo hin' hWs hlr hnl hres
          go_simp
          exact HK.out
        refine StepsL.cons ?_ ?_
        · refine FreeStep.own (base := Wr.heap.size) rfl (push2_ok _) fun u β W hW hn fr hfr K hK => ?_
          simp only [frameL, putL, Act.put, List.setIfInBounds_toArray, List.set_cons_zero, List.set_cons_succ, Nat.zero_add, Nat.reduceAdd] at hfr
          subst hfr
          have e9 : u 9 = .slice L j kl := Have.get (k := 9) hn rfl
          have e10 : u 10 = .func (.func 89) #[] #[.pointer (some ⟨w.heap.size, 0, none⟩), .pointer (some ⟨wr.heap.size, 0, none⟩)] := Have.get (k := 10) hn rfl
          simp only [e9, e10] at hK
          have Q := Lib.hid (mapped_int_pushes W (fun s => (c.call.getD s.toNat []).map (numP (numsT n list j))) 89 #[.pointer (some ⟨w.heap.size, 0, none⟩), .pointer (some ⟨wr.heap.size, 0, none⟩)] cf4 hm40 ((ints_ok _).later hlr hW) (fun x hx W' hW' => ws4 x W' Hbd.out (hWs.later (hW.trans (hW'.mono hW.size))) hnn (by rw [hgo.lc]; exact hin' x hx) (by rw [hnl]; exact hgo.call)))
          have HK := Lib.hid hK
          clear hK hn
          clear hm40 hnn ha40 hgo hin' hWs hlr hnl hres
          go_simp
          refine Q.out.mono ?_
          rintro e w1 ⟨v1, bs1, rfl, E1, hb1⟩
          exact HK.out v1 bs1 w1 hb1 (pushes2_base hW.size _ _ _ _ E1) (fun b hb => ((push2_ok _).lt E1 b hb).1)
        refine StepsL.cons ?_ ?_
        · refine FreeStep.val [] _ rfl rfl fun u β W hW hn fr hfr K hK => ?_
          simp only [frameL, putL, Act.put, List.setIfInBounds_toArray, List.set_cons_zero, List.set_cons_succ, Nat.zero_add, Nat.reduceAdd] at hfr
          subst hfr
          have HK := Lib.hid hK
          clear hK hn
          clear hm40 hnn ha40 hgo hin' hWs hlr hnl hres
          go_simp
          exact HK.out
        refine StepsL.cons ?_ ?_
        · refine FreeStep.val [] _ rfl rfl fun u β W hW hn fr hfr K hK => ?_
          simp only [frameL, putL, Act.put, List.setIfInBounds_toArray, List.set_cons_zero, List.set_cons_succ, Nat.zero_add, Nat.reduceAdd] at hfr
          subst hfr
          have HK := Lib.hid hK
          clear hK hn
          clear hm40 hnn ha40 hgo hin' hWs hlr hnl hres
          go_simp
          exact HK.out
        refine StepsL.cons ?_ ?_
        · refine FreeStep.own (base := Wr.heap.size) rfl (ints3_ok _) fun u β W hW hn fr hfr K hK => ?_
          simp only [frameL, putL, Act.put, List.setIfInBounds_toArray, List.set_cons_zero, List.set_cons_succ, Nat.zero_add, Nat.reduceAdd] at hfr
          subst hfr
          have e12 : u 12 = .slice L j kl := Have.get (k := 12) hn rfl
          have e13 : u 13 = .func (.func 93) #[] #[.pointer (some ⟨w.heap.size, 0, none⟩), .pointer (some ⟨wr.heap.size + 1, 0, none⟩)] := Have.get (k := 13) hn rfl
          simp only [e12, e13] at hK
          have Q := Lib.hid (mapped_int_ints2 W (fun s => (c.ret.getD s.toNat []).map fun y => y.map (numAt (numsT n list j))) 93 #[.pointer (some ⟨w.heap.size, 0, none⟩), .pointer (some ⟨wr.heap.size + 1, 0, none⟩)] cf5 hm40 ((ints_ok _).later hlr hW) (fun x hx W' hW' => ws5 x W' Hbd.out (hWs.later (hW.trans (hW'.mono hW.size))) hnn (by rw [hgo.lr]; exact hin' x hx) (by rw [hnl]; exact hgo.ret)))
          have HK := Lib.hid hK
          clear hK hn
          clear hm40 hnn ha40 hgo hin' hWs hlr hnl hres
          go_simp
          refine Q.out.mono ?_
          rintro e w1 ⟨v1, bs1, rfl, E1, hb1⟩
          exact HK.out v1 bs1 w1 hb1 (ints3_base hW.size _ _ _ _ E1) (fun b hb => ((ints3_ok _).lt E1 b hb).1)
        refine StepsL.cons ?_ ?_
        · refine FreeStep.val [] _ rfl rfl fun u β W hW hn fr hfr K hK => ?_
          simp only [frameL, putL, Act.put, List.setIfInBounds_toArray, List.set_cons_zero, List.set_cons_succ, Nat.zero_add, Nat.reduceAdd] at hfr
          subst hfr
          have HK := Lib.hid hK
          clear hK hn
          clear hm40 hnn ha40 hgo hin' hWs hlr hnl hres
          go_simp
          exact HK.out
        refine StepsL.cons ?_ ?_
        · refine FreeStep.val [] _ rfl rfl fun u β W hW hn fr hfr K hK => ?_
          simp only [frameL, putL, Act.put, List.setIfInBounds_toArray, List.set_cons_zero, List.set_cons_succ, Nat.zero_add, Nat.reduceAdd] at hfr
          subst hfr
          have HK := Lib.hid hK
          clear hK hn
          clear hm40 hnn ha40 hgo hin' hWs hlr hnl hres
          go_simp
          exact HK.out
        refine StepsL.cons ?_ ?_
        · refine FreeStep.own (base := Wr.heap.size) rfl (ints2_ok _) fun u β W hW hn fr hfr K hK => ?_
          simp only [frameL, putL, Act.put, List.setIfInBounds_toArray, List.set_cons_zero, List.set_cons_succ, Nat.zero_add, Nat.reduceAdd] at hfr
          subst hfr
          have e15 : u 15 = .slice L j kl := Have.get (k := 15) hn rfl
          have e16 : u 16 = .func (.func 96) #[] #[.pointer (some ⟨wr.heap.size + 1, 0, none⟩), .pointer (some ⟨w.heap.size, 0, none⟩)] := Have.get (k := 16) hn rfl
          simp only [e15, e16] at hK
          have Q := Lib.hid (mapped_int_ints W (fun s => (c.inner.getD s.toNat []).map (numAt (numsT n list j))) 96 #[.pointer (some ⟨wr.heap.size + 1, 0, none⟩), .pointer (some ⟨w.heap.size, 0, none⟩)] cf6 hm40 ((ints_ok _).later hlr hW) (fun x hx W' hW' => ws6 x W' Hbd.out (hWs.later (hW.trans (hW'.mono hW.size))) hnn (by rw [hgo.li]; exact hin' x hx) (by rw [hnl]; exact hgo.inner)))
          have HK := Lib.hid hK
          clear hK hn
          clear hm40 hnn ha40 hgo hin' hWs hlr hnl hres
          go_simp
          refine Q.out.mono ?_
          rintro e w1 ⟨v1, bs1, rfl, E1, hb1⟩
          exact HK.out v1 bs1 w1 hb1 (ints2_base hW.size _ _ _ _ E1) (fun b hb => ((ints2_ok _).lt E1 b hb).1)
        refine StepsL.cons ?_ ?_
        · refine FreeStep.val [1, 5, 8, 11, 14, 17] _ rfl rfl fun u β W hW hn fr hfr K hK => ?_
          simp only [frameL, putL, Act.put, List.setIfInBounds_toArray, List.set_cons_zero, List.set_cons_succ, Nat.zero_add, Nat.reduceAdd] at hfr
          subst hfr
          have e1 : u 1 = .int .i64 c.stack := Have.get (k := 1) hn rfl
          have e5 : u 5 = .int .i64 (numAt (numsT n list j) c.start) := Have.get (k := 5) hn rfl
          have f8 : BoolsE Wr.heap.size W (u 8) _ (β 8) := Have.get (k := 8) hn rfl
          have f11 : Push2E Wr.heap.size W (u 11) _ (β 11) := Have.get (k := 11) hn rfl
          have f14 : Ints3E Wr.heap.size W (u 14) _ (β 14) := Have.get (k := 14) hn rfl
          have f17 : Ints2E Wr.heap.size W (u 17) _ (β 17) := Have.get (k := 17) hn rfl
          obtain ⟨A8, k8, g8⟩ := RowE.slice f8
          obtain ⟨A11, k11, g11⟩ := ManyE.slice f11
          obtain ⟨A14, k14, g14⟩ := ManyE.slice f14
          obtain ⟨A17, k17, g17⟩ := ManyE.slice f17
          rw [List.length_map] at g8 g11 g14 g17
          have hon : only [1, 5, 8, 11, 14, 17] u 1 = u 1 ∧ only [1, 5, 8, 11, 14, 17] u 5 = u 5 ∧ only [1, 5, 8, 11, 14, 17] u 8 = u 8 ∧ only [1, 5, 8, 11, 14, 17] u 11 = u 11 ∧ only [1, 5, 8, 11, 14, 17] u 14 = u 14 ∧ only [1, 5, 8, 11, 14, 17] u 17 = u 17 := ⟨rfl, rfl, rfl, rfl, rfl, rfl⟩
          simp only [hon.1, hon.2.1, hon.2.2.1, hon.2.2.2.1, hon.2.2.2.2.1, hon.2.2.2.2.2, e1, e5, g8, g11, g14, g17] at hK
          have HK := Lib.hid hK
          clear hK hn hon f8 f11 f14 f17 hm40 hnn ha40 hgo hin' hWs hlr hnl hres
          go_simp
          exact HK.out
        intro u β W hW hn hdis hbnd fr hfr K hK
        simp only [frameL, putL, Act.put, List.setIfInBounds_toArray, List.set_cons_zero, List.set_cons_succ, Nat.zero_add, Nat.reduceAdd] at hfr
        subst hfr
        have f8 : BoolsE Wr.heap.size W (u 8) _ (β 8) := Have.get (k := 8) hn rfl
        have f11 : Push2E Wr.heap.size W (u 11) _ (β 11) := Have.get (k := 11) hn rfl
        have f14 : Ints3E Wr.heap.size W (u 14) _ (β 14) := Have.get (k := 14) hn rfl
        have f17 : Ints2E Wr.heap.size W (u 17) _ (β 17) := Have.get (k := 17) hn rfl
        have e1 : u 1 = .int .i64 c.stack := Have.get (k := 1) hn rfl
        have e5 : u 5 = .int .i64 (numAt (numsT n list j) c.start) := Have.get (k := 5) hn rfl
        have e18 : u 18 = .agg #[u 1, u 5, u 8, u 11, u 14, u 17] := Have.get (k := 18) hn rfl
        obtain ⟨A8, k8, g8⟩ := RowE.slice f8
        obtain ⟨A11, k11, g11⟩ := ManyE.slice f11
        obtain ⟨A14, k14, g14⟩ := ManyE.slice f14
        obtain ⟨A17, k17, g17⟩ := ManyE.slice f17
        rw [List.length_map] at g8 g11 g14 g17
        rw [e1, e5, g8, g11, g14, g17] at e18
        rw [g8] at f8
        rw [g11] at f11
        rw [g14] at f14
        rw [g17] at f17
        have hd : (β 8 ++ (β 11 ++ (β 14 ++ β 17))).Nodup := by
          have d : ∀ (x y : List Nat), x.Nodup → y.Nodup → (∀ b ∈ x, b ∉ y) → (x ++ y).Nodup := fun x y h1 h2 h3 => List.nodup_append.2 ⟨h1, h2, fun b hb b' hb' e => h3 b hb (e ▸ hb')⟩
          have d8 := hdis 8
          have n1 := d _ _ ((ints3_ok _).nodup f14) ((ints2_ok _).nodup f17) (hdis 14 17 (by decide) (by decide) (by decide))
          have n2 := d _ _ ((push2_ok _).nodup f11) n1 (fun b hb h => by
            rcases List.mem_append.1 h with h | h
            · exact hdis 11 14 (by decide) (by decide) (by decide) b hb h
            · exact hdis 11 17 (by decide) (by decide) (by decide) b hb h)
          exact d _ _ ((bools_ok _).nodup f8) n2 (fun b hb h => by
            rcases List.mem_append.1 h with h | h
            · exact hdis 8 11 (by decide) (by decide) (by decide) b hb h
            · rcases List.mem_append.1 h with h | h
              · exact hdis 8 14 (by decide) (by decide) (by decide) b hb h
              · exact hdis 8 17 (by decide) (by decide) (by decide) b hb h)
        have hBW := hBr.trans (hW.mono hBr.size)
        have hbx := hres.later hW
        obtain ⟨c0, c1, c2, c3, c4, c5, cl⟩ := id hbx.all6
        have q0 := hbx.frozen 0
        have q1 := hbx.frozen 1
        have q2 := hbx.frozen 2
        have q3 := hbx.frozen 3
        have q4 := hbx.frozen 4
        have q5 := hbx.frozen 5
        have hszr := And.intro hres.lt hBr.size
        have HF := Lib.hid (And.intro f8 (And.intro f11 (And.intro f14 (And.intro f17 (And.intro hd (And.intro hBW (And.intro hbx (And.intro hszr hK))))))))
        obtain ⟨st, hst⟩ : ∃ st, st = numAt (numsT n list j) c.start := ⟨_, rfl⟩
        rw [← hst] at e18
        have Hst := Lib.hid hst
        clear f8 f11 f14 f17 hd hBW hbx hK hn hdis hbnd e1 e5 g8 g11 g14 g17 hm40 hnn ha40 hgo hin' hWs hlr hnl hres hst
        go_simp
        refine HF.out.2.2.2.2.2.2.2.2 _ _ ?_
        go_wp2
        obtain ⟨f8, f11, f14, f17, hd, hBW, hbx, hszr, _⟩ := HF.out
        have x0 := hbx.set 0 (.int .i64 c.stack)
        have x1 := x0.set 1 (.int .i64 st)
        have x2 := x1.set 2 (.slice A8 list.length k8)
        have x3 := x2.set 3 (.slice A11 list.length k11)
        have x4 := x3.set 4 (.slice A14 list.length k14)
        have x5 := x4.set 5 (.slice A17 list.length k17)
        have hfr : ∀ (V : World) (i : Nat) (v : Value) (b : Nat), Wr.heap.size ≤ b → (V.setCell ⟨w.heap.size + 1, i, none⟩ v).heap[b]? = V.heap[b]? := fun V i v b hb => Below.heap_setCell V ⟨w.heap.size + 1, i, none⟩ v b (fun e => by
          have h1 := hszr.1
          have h2 : b = w.heap.size + 1 := e
          omega)
        obtain ⟨Wf, hWf⟩ : ∃ Wf, Wf = ((((((W.setCell ⟨w.heap.size + 1, 0, none⟩ (.int .i64 c.stack)).setCell ⟨w.heap.size + 1, 1, none⟩ (.int .i64 st)).setCell ⟨w.heap.size + 1, 2, none⟩ (.slice A8 list.length k8)).setCell ⟨w.heap.size + 1, 3, none⟩ (.slice A11 list.length k11)).setCell ⟨w.heap.size + 1, 4, none⟩ (.slice A14 list.length k14)).setCell ⟨w.heap.size + 1, 5, none⟩ (.slice A17 list.length k17)) := ⟨_, rfl⟩
        have hkeep : ∀ b, Wr.heap.size ≤ b → Wf.heap[b]? = W.heap[b]? := fun b hb => by
          rw [hWf, hfr _ _ _ b hb, hfr _ _ _ b hb, hfr _ _ _ b hb, hfr _ _ _ b hb, hfr _ _ _ b hb, hfr _ _ _ b hb]
        have hBf : Below w.heap.size w Wf := by
          rw [hWf]
          exact ((((((hBW.setCell (p := ⟨w.heap.size + 1, 0, none⟩) (by simp) _).setCell (p := ⟨w.heap.size + 1, 1, none⟩) (by simp) _).setCell (p := ⟨w.heap.size + 1, 2, none⟩) (by simp) _).setCell (p := ⟨w.heap.size + 1, 3, none⟩) (by simp) _).setCell (p := ⟨w.heap.size + 1, 4, none⟩) (by simp) _).setCell (p := ⟨w.heap.size + 1, 5, none⟩) (by simp) _)
        rw [← hWf] at x5 ⊢
        have F8 := bools_base hszr.2 _ _ _ _ ((bools_ok _).kept f8 fun b hb => hkeep b ((bools_ok _).lt f8 b hb).1)
        have F11 := pushes2_base hszr.2 _ _ _ _ ((push2_ok _).kept f11 fun b hb => hkeep b ((push2_ok _).lt f11 b hb).1)
        have F14 := ints3_base hszr.2 _ _ _ _ ((ints3_ok _).kept f14 fun b hb => hkeep b ((ints3_ok _).lt f14 b hb).1)
        have F17 := ints2_base hszr.2 _ _ _ _ ((ints2_ok _).kept f17 fun b hb => hkeep b ((ints2_ok _).lt f17 b hb).1)
        have y0 := x5.cell 0 (.int .i64 c.stack) rfl
        have y1 := x5.cell 1 (.int .i64 st) rfl
        have y2 := x5.cell 2 (.slice A8 list.length k8) rfl
        have y3 := x5.cell 3 (.slice A11 list.length k11) rfl
        have y4 := x5.cell 4 (.slice A14 list.length k14) rfl
        have y5 := x5.cell 5 (.slice A17 list.length k17) rfl
        have hws : wsC c list = { stack := c.stack, start := st, accept := list.map fun s => c.accept.getD s.toNat false, call := list.map fun s => (c.call.getD s.toNat []).map (numP (numsT n list j)), ret := list.map fun s => (c.ret.getD s.toNat []).map fun y => y.map (numAt (numsT n list j)), inner := list.map fun s => (c.inner.getD s.toNat []).map (numAt (numsT n list j)) } := by
          unfold wsC
          simp only [← Hn.out, ← Hm.out, Hst.out]
        have fin : CkE w.heap.size Wf (.agg #[.int .i64 c.stack, .int .i64 st, .slice A8 list.length k8, .slice A11 list.length k11, .slice A14 list.length k14, .slice A17 list.length k17]) (wsC c list) (β 8 ++ (β 11 ++ (β 14 ++ β 17))) := by
          rw [hws]
          exact ⟨_, _, _, _, _, _, _, _, rfl, F8, F11, F14, F17, rfl, hd⟩
        clear hWf hkeep hfr x0 x1 x2 x3 x4 x5 f8 f11 f14 f17 F8 F11 F14 F17 hws
        exact bodyPost_ret (v := .agg #[.int .i64 c.stack, .int .i64 st, .slice A8 list.length k8, .slice A11 list.length k11, .slice A14 list.length k14, .slice A17 list.length k17]) (by simp [results, Try.results44, go_sem, y0, y1, y2, y3, y4, y5]) rfl ⟨_, _, rfl, fin, hBf⟩
end Go.Proofs.Ytdehehdcjfaefab
