/- RenameRewriter of the program, and both. -/
import Derived.Test.YtmkamodmnplclaaKnRenN
import Derived.Test.YtmkamodmnplclaaShape
import Derived.Test.YtmkamodmnplclaaNested
namespace Go.Proofs.Ytmkamodmnplclaa
open Go.RowKit
set_option linter.unusedVariables false

theorem toInfo_opt : (Try.prog.info? 81).map (fun i => (i.zero, i.size, i.bytes)) = some (some .nilFunc, 1, 8) := by kernel_rfl
theorem shape_ren {x0 x1 x2 x3 x4 x5 : UInt8} (h : Ren6 x0 x1 x2 x3 x4 x5) (w : World) : Calls Try.prog 65 #[.string ⟨#[x0, x1, x2, x3, x4, x5]⟩] w (TupPost (.tuple #[.string ⟨#[40, 40, 41, 41, 97, 97]⟩, .int .i64 0]) w) := by
  have h1 := impl_ShapeOf_yes ⟨#[x0, x1, x2, x3, x4, x5]⟩ w h.isW
  have e : (⟨((⟨#[x0, x1, x2, x3, x4, x5]⟩ : ByteArray).data.toList.map shapeB).toArray⟩ : ByteArray) = ⟨#[40, 40, 41, 41, 97, 97]⟩ := by
    show (⟨(List.map shapeB [x0, x1, x2, x3, x4, x5]).toArray⟩ : ByteArray) = _
    simp only [List.map_cons, List.map_nil, (call_sym h.c0).2.2.2, (call_sym h.c1).2.2.2, (ret_sym h.r2).2.2.2, (ret_sym h.r3).2.2.2, (let_sym h.l4).2.2.2.1, (let_sym h.l5).2.2.2.1]
  rw [e] at h1
  exact h1
theorem ren0 : Ren6 40 91 41 93 97 98 := ⟨by decide, by decide, by decide, by decide, .inl rfl, .inr rfl⟩
/-- The options that have been made of the first j symbols. -/
def OptsR (B : Nat) (wr : World) (l : List UInt8) (j : Nat) (v : Value) : Prop := ∃ A cap vs, v = .slice A j cap ∧ wr.ownsRow B 81 1 v j vs ∧ ∀ (i : Nat) (x : UInt8), i < j → l[i]? = some x → ∃ S O, vs[i]? = some (.func (.func 105) #[] #[.pointer (some ⟨S, 0, none⟩), .pointer (some ⟨O, 0, none⟩)]) ∧ S < wr.heap.size ∧ O < wr.heap.size ∧
  wr.cell? ⟨S, 0, none⟩ = some (.int .u8 (i : Int)) ∧ wr.cell? ⟨O, 0, none⟩ = some (.string ⟨#[x]⟩) ∧ v.ownBlock ≠ some S ∧ v.ownBlock ≠ some O
theorem OptsR.next {B j S O g cap : Nat} {wr W w5 : World} {l : List UInt8} {A : Option Addr} {c0 : Nat} {vs : List Value} {x : UInt8} (h : OptsR B wr l j (.slice A j c0)) (hrow : wr.ownsRow B 81 1 (.slice A j c0) j vs) (hx : l[j]? = some x) (hW : Below wr.heap.size wr W)
    (hS : W.cell? ⟨S, 0, none⟩ = some (.int .u8 (j : Int))) (hO : W.cell? ⟨O, 0, none⟩ = some (.string ⟨#[x]⟩)) (hS0 : wr.heap.size ≤ S) (hO0 : wr.heap.size ≤ O) (hS1 : S < W.heap.size) (hO1 : O < W.heap.size)
    (hown : w5.ownsRow B 81 1 (.slice (some ⟨g, 0, none⟩) (j + 1) cap) (j + 1) (vs ++ [.func (.func 105) #[] #[.pointer (some ⟨S, 0, none⟩), .pointer (some ⟨O, 0, none⟩)]])) (hg : W.grownBy w5 (Value.slice A j c0).ownBlock) (hat : (Value.slice A j c0).ownBlock = some g ∨ g = W.heap.size) :
    OptsR B w5 l (j + 1) (.slice (some ⟨g, 0, none⟩) (j + 1) cap) := by
  obtain ⟨A', c', vs', e, hr', hall⟩ := h
  obtain rfl := g_uniq hr' hrow
  have hvl := hrow.1
  have hol : ∀ k, (Value.slice A j c0).ownBlock = some k → k < wr.heap.size := fun k hk => (hrow.lt k hk).2
  have hcell : ∀ (p : Addr) (u : Value), W.cell? p = some u → (Value.slice A j c0).ownBlock ≠ some p.block → w5.cell? p = some u := fun p u hp hne => (World.cell?_of_block (w := W) (w' := w5) (a := p) (hg.block p.block (World.block_lt_of_cell? _ _ hp) (fun e => hne e.symm))).trans hp
  have hgne : ∀ k, k < W.heap.size → (Value.slice A j c0).ownBlock ≠ some k → (Value.slice (some ⟨g, 0, none⟩) (j + 1) cap).ownBlock ≠ some k := fun k hk hne e => by
    have e2 : g = k := by simpa [Value.ownBlock] using e
    rcases hat with h1 | h1
    · exact hne (by rw [h1, e2])
    · omega
  have hsz := hg.size
  have hszW := hW.size
  refine ⟨_, _, _, rfl, hown, fun i y hi hy => ?_⟩
  by_cases hij : i < j
  · obtain ⟨S', O', h1, h2, h3, h4, h5, h6, h7⟩ := hall i y hij hy
    exact ⟨S', O', by rw [List.getElem?_append_left (by omega)]; exact h1, by omega, by omega, hcell _ _ (cellL h4 hW) h6, hcell _ _ (cellL h5 hW) h7, hgne _ (by omega) h6, hgne _ (by omega) h7⟩
  · obtain rfl : i = j := by omega
    rw [hx] at hy
    obtain rfl := Option.some.inj hy
    have nS : (Value.slice A i c0).ownBlock ≠ some S := fun e => by have := hol S e; omega
    have nO : (Value.slice A i c0).ownBlock ≠ some O := fun e => by have := hol O e; omega
    exact ⟨S, O, by rw [List.getElem?_append_right (by omega), show i - vs'.length = 0 by omega]; rfl, by omega, by omega, hcell _ _ hS nS, hcell _ _ hO nO, hgne _ hS1 nS, hgne _ hO1 nO⟩
theorem shape_callQ {x : UInt8} (h : shapeB x = 40) (hs : 0 ≤ symNo x.toNat) : callB x.toNat = true := by
  have e : ∀ q : UInt8, (x.toNat : Int) = (q.toNat : Int) → x = q := fun q h => UInt8.toNat_inj.1 (by omega)
  rcases sym_cases (x.toNat : Int) with h1 | h1 | h1 | h1 | h1 | h1 | h1
  · simp [callB, h1]
  · simp [callB, h1]
  · rw [e 41 h1] at h; exact absurd h (by decide)
  · rw [e 93 h1] at h; exact absurd h (by decide)
  · rw [e 97 h1] at h; exact absurd h (by decide)
  · rw [e 98 h1] at h; exact absurd h (by decide)
  · rw [symNo_none h1] at hs; omega
theorem shape_ret' {x : UInt8} (h : shapeB x = 41) (hs : 0 ≤ symNo x.toNat) : retB x.toNat = true := by
  have e : ∀ q : UInt8, (x.toNat : Int) = (q.toNat : Int) → x = q := fun q h => UInt8.toNat_inj.1 (by omega)
  rcases sym_cases (x.toNat : Int) with h1 | h1 | h1 | h1 | h1 | h1 | h1
  · rw [e 40 h1] at h; exact absurd h (by decide)
  · rw [e 91 h1] at h; exact absurd h (by decide)
  · simp [retB, h1]
  · simp [retB, h1]
  · rw [e 97 h1] at h; exact absurd h (by decide)
  · rw [e 98 h1] at h; exact absurd h (by decide)
  · rw [symNo_none h1] at hs; omega
theorem shape_let {x : UInt8} (h : shapeB x = 97) (hs : 0 ≤ symNo x.toNat) : x = 97 ∨ x = 98 := by
  have e : ∀ q : UInt8, (x.toNat : Int) = (q.toNat : Int) → x = q := fun q h => UInt8.toNat_inj.1 (by omega)
  rcases sym_cases (x.toNat : Int) with h1 | h1 | h1 | h1 | h1 | h1 | h1
  · rw [e 40 h1] at h; exact absurd h (by decide)
  · rw [e 91 h1] at h; exact absurd h (by decide)
  · rw [e 41 h1] at h; exact absurd h (by decide)
  · rw [e 93 h1] at h; exact absurd h (by decide)
  · exact .inl (e 97 h1)
  · exact .inr (e 98 h1)
  · rw [symNo_none h1] at hs; omega
def renSeq (x0 x1 x2 x3 x4 x5 : UInt8) (i : Nat) : Rw := if i = 0 then plainRw 1 1 else if i = 1 then lit1 1 (0, 0, ⟨#[x0]⟩) (0, 0, ⟨#[91]⟩) (List.replicate 2 (0, ⟨#[41]⟩)) (List.replicate 2 (0, ⟨#[93]⟩)) (0, ⟨#[97]⟩) (0, ⟨#[98]⟩) else if i = 2 then lit1 1 (0, 0, ⟨#[x0]⟩) (0, 0, ⟨#[x1]⟩) (List.replicate 2 (0, ⟨#[41]⟩)) (List.replicate 2 (0, ⟨#[93]⟩)) (0, ⟨#[97]⟩) (0, ⟨#[98]⟩) else if i = 3 then lit1 1 (0, 0, ⟨#[x0]⟩) (0, 0, ⟨#[x1]⟩) [(0, ⟨#[x2]⟩), (0, ⟨#[x2]⟩)] (List.replicate 2 (0, ⟨#[93]⟩)) (0, ⟨#[97]⟩) (0, ⟨#[98]⟩) else if i = 4 then lit1 1 (0, 0, ⟨#[x0]⟩) (0, 0, ⟨#[x1]⟩) [(0, ⟨#[x2]⟩), (0, ⟨#[x2]⟩)] [(0, ⟨#[x3]⟩), (0, ⟨#[x3]⟩)] (0, ⟨#[97]⟩) (0, ⟨#[98]⟩) else if i = 5 then lit1 1 (0, 0, ⟨#[x0]⟩) (0, 0, ⟨#[x1]⟩) [(0, ⟨#[x2]⟩), (0, ⟨#[x2]⟩)] [(0, ⟨#[x3]⟩), (0, ⟨#[x3]⟩)] (0, ⟨#[x4]⟩) (0, ⟨#[98]⟩) else renRw x0 x1 x2 x3 x4 x5
theorem OptsR.done {B : Nat} {w : World} {v : Value} {x0 x1 x2 x3 x4 x5 : UInt8} (h : OptsR B w [x0, x1, x2, x3, x4, x5] 6 v) : OptsC w 6 v (renSeq x0 x1 x2 x3 x4 x5) := by
  obtain ⟨A, cap, vs, rfl, hrow, hall⟩ := h
  have hrow2 := hrow
  rcases hrow.2 with ⟨_, h0⟩ | ⟨g, cap', cur, hv, _⟩
  · omega
  simp only [Value.slice.injEq] at hv
  obtain ⟨rfl, _, rfl⟩ := hv
  have hl := hrow.1
  refine ⟨_, _, rfl, fun i hi => ?_⟩
  have hc : ∀ (S O : Nat), vs[i]? = some (.func (.func 105) #[] #[.pointer (some ⟨S, 0, none⟩), .pointer (some ⟨O, 0, none⟩)]) → w.cell? ⟨g, i, none⟩ = some (.func (.func 105) #[] #[.pointer (some ⟨S, 0, none⟩), .pointer (some ⟨O, 0, none⟩)]) := fun S O h => by
    rw [hrow2.cellAt i (by omega)]; exact h
  rcases (by omega : i = 0 ∨ i = 1 ∨ i = 2 ∨ i = 3 ∨ i = 4 ∨ i = 5) with rfl | rfl | rfl | rfl | rfl | rfl
  · obtain ⟨S, O, h1, _, _, hS, hO, _⟩ := hall 0 x0 (by omega) rfl
    exact ⟨g, 105, _, rfl, hc S O h1, cf_writing, opt_writing_0 w S O ⟨#[x0]⟩ (plainRw 1 1) (0, 0, ⟨#[40]⟩) (0, 0, ⟨#[91]⟩) rfl rfl rfl hS hO⟩
  · obtain ⟨S, O, h1, _, _, hS, hO, _⟩ := hall 1 x1 (by omega) rfl
    exact ⟨g, 105, _, rfl, hc S O h1, cf_writing, opt_writing_1 w S O ⟨#[x1]⟩ (lit1 1 (0, 0, ⟨#[x0]⟩) (0, 0, ⟨#[91]⟩) (List.replicate 2 (0, ⟨#[41]⟩)) (List.replicate 2 (0, ⟨#[93]⟩)) (0, ⟨#[97]⟩) (0, ⟨#[98]⟩)) (0, 0, ⟨#[x0]⟩) (0, 0, ⟨#[91]⟩) rfl rfl rfl hS hO⟩
  · obtain ⟨S, O, h1, _, _, hS, hO, _⟩ := hall 2 x2 (by omega) rfl
    exact ⟨g, 105, _, rfl, hc S O h1, cf_writing, opt_writing_2 w S O 2 ⟨#[x2]⟩ (lit1 1 (0, 0, ⟨#[x0]⟩) (0, 0, ⟨#[x1]⟩) (List.replicate 2 (0, ⟨#[41]⟩)) (List.replicate 2 (0, ⟨#[93]⟩)) (0, ⟨#[97]⟩) (0, ⟨#[98]⟩)) (List.replicate 2 (0, ⟨#[41]⟩)) (List.replicate 2 (0, ⟨#[93]⟩)) rfl rfl rfl rfl (by omega) hS hO⟩
  · obtain ⟨S, O, h1, _, _, hS, hO, _⟩ := hall 3 x3 (by omega) rfl
    exact ⟨g, 105, _, rfl, hc S O h1, cf_writing, opt_writing_3 w S O 2 ⟨#[x3]⟩ (lit1 1 (0, 0, ⟨#[x0]⟩) (0, 0, ⟨#[x1]⟩) [(0, ⟨#[x2]⟩), (0, ⟨#[x2]⟩)] (List.replicate 2 (0, ⟨#[93]⟩)) (0, ⟨#[97]⟩) (0, ⟨#[98]⟩)) [(0, ⟨#[x2]⟩), (0, ⟨#[x2]⟩)] (List.replicate 2 (0, ⟨#[93]⟩)) rfl rfl rfl rfl (by omega) hS hO⟩
  · obtain ⟨S, O, h1, _, _, hS, hO, _⟩ := hall 4 x4 (by omega) rfl
    exact ⟨g, 105, _, rfl, hc S O h1, cf_writing, opt_writing_4 w S O ⟨#[x4]⟩ (lit1 1 (0, 0, ⟨#[x0]⟩) (0, 0, ⟨#[x1]⟩) [(0, ⟨#[x2]⟩), (0, ⟨#[x2]⟩)] [(0, ⟨#[x3]⟩), (0, ⟨#[x3]⟩)] (0, ⟨#[97]⟩) (0, ⟨#[98]⟩)) (0, ⟨#[97]⟩) (0, ⟨#[98]⟩) rfl rfl rfl hS hO⟩
  · obtain ⟨S, O, h1, _, _, hS, hO, _⟩ := hall 5 x5 (by omega) rfl
    exact ⟨g, 105, _, rfl, hc S O h1, cf_writing, opt_writing_5 w S O ⟨#[x5]⟩ (lit1 1 (0, 0, ⟨#[x0]⟩) (0, 0, ⟨#[x1]⟩) [(0, ⟨#[x2]⟩), (0, ⟨#[x2]⟩)] [(0, ⟨#[x3]⟩), (0, ⟨#[x3]⟩)] (0, ⟨#[x4]⟩) (0, ⟨#[98]⟩)) (0, ⟨#[x4]⟩) (0, ⟨#[98]⟩) rfl rfl rfl hS hO⟩
set_option maxHeartbeats 6400000 in
set_option maxRecDepth 100000 in
theorem impl_Rename_yes (x0 x1 x2 x3 x4 x5 : UInt8) (w : World) (h : Ren6 x0 x1 x2 x3 x4 x5) : Calls Try.prog 31 #[.string ⟨#[x0, x1, x2, x3, x4, x5]⟩] w (PostV RwE (renRw x0 x1 x2 x3 x4 x5) 0 w) := by
  obtain ⟨i0, hi, hz0, hz1, hz2⟩ := info_parts toInfo_opt
  have HS1 := Lib.hid (fun W => shape_ren h W)
  have HS2 := Lib.hid (fun W => shape_ren ren0 W)
  have hp := fun W => impl_read_yes ⟨#[x0, x1, x2, x3, x4, x5]⟩ W (by show 6 ≤ 60; omega) h.isW.2
  have hsym : ∀ (j : Nat) (x : UInt8), [x0, x1, x2, x3, x4, x5][j]? = some x → (0 ≤ symNo x.toNat ∧ symNo x.toNat ≤ 5) ∧ byteOf (symNo x.toNat) = x := by
    intro j x hx
    have hm := List.mem_of_getElem? hx
    simp only [List.mem_cons, List.not_mem_nil, or_false] at hm
    rcases hm with rfl | rfl | rfl | rfl | rfl | rfl
    · have := call_sym h.c0; exact ⟨⟨this.1, by omega⟩, this.2.2.1⟩
    · have := call_sym h.c1; exact ⟨⟨this.1, by omega⟩, this.2.2.1⟩
    · have := ret_sym h.r2; exact ⟨⟨by omega, by omega⟩, this.2.2.1⟩
    · have := ret_sym h.r3; exact ⟨⟨by omega, by omega⟩, this.2.2.1⟩
    · have := let_sym h.l4; exact ⟨⟨by omega, this.2.1⟩, this.2.2.1⟩
    · have := let_sym h.l5; exact ⟨⟨by omega, this.2.1⟩, this.2.2.1⟩
  obtain ⟨l, hl⟩ : ∃ l, l = [x0, x1, x2, x3, x4, x5] := ⟨_, rfl⟩
  have hp : ∀ W, Calls Try.prog 66 #[.string ⟨#[x0, x1, x2, x3, x4, x5]⟩] W (ReadYes 6 l W) := by rw [hl]; exact hp
  have hll : l.length = 6 := by rw [hl]; rfl
  rw [← hl] at hsym
  obtain ⟨s, hs⟩ : ∃ s, s = (⟨#[x0, x1, x2, x3, x4, x5]⟩ : ByteArray) := ⟨_, rfl⟩
  rw [← hs] at HS1 hp ⊢
  have Hp := Lib.hid hp
  have Hsym := Lib.hid hsym
  have Hl := Lib.hid (And.intro hl hll)
  clear hp hsym hl hll hs h
  have hBr := (Below.refl w.heap.size w).alloc (Nat.le_refl _) (.cells #[.int .i64 0, .int .i64 0, .slice none 0 0, .slice none 0 0, .slice none 0 0] 36)
  have hres := Bx.new w 36 #[.int .i64 0, .int .i64 0, .slice none 0 0, .slice none 0 0, .slice none 0 0]
  obtain ⟨Wr, hWr⟩ : ∃ Wr, Wr = w.alloc (.cells #[.int .i64 0, .int .i64 0, .slice none 0 0, .slice none 0 0, .slice none 0 0] 36) := ⟨_, rfl⟩
  rw [← hWr] at hBr hres
  have HR := Lib.hid (And.intro hBr (And.intro hres.lt hres))
  have hml : w.heap.size < Wr.heap.size := hres.lt
  have HWr := Lib.hid hWr
  clear hBr hres hWr
  go_enter Try.func31, Try.ntmps31
  go_wp2_with fail
  rw [← HWr.out]
  refine (HS1.out _).mono ?_
  rintro e wa ⟨rfl, hba⟩
  have HB0 := Lib.hid hba
  clear hba
  go_wp2_with fail
  refine (HS2.out _).mono ?_
  rintro e wb ⟨rfl, hbb⟩
  have HB1 := Lib.hid (HB0.out.trans (hbb.mono HB0.out.size))
  clear hbb
  go_wp2_with fail
  refine (Hp.out _).mono ?_
  rintro e wc ⟨M, rfl, hsy, _, hbc⟩
  obtain ⟨gs, hgs⟩ : ∃ g, g = wb.heap.size + 1 + 1 := ⟨_, rfl⟩
  rw [← hgs] at hsy ⊢
  have hsyX := hsy.alloc (.cells #[.slice (some ⟨gs, 0, none⟩) 6 6, .slice (some ⟨M, 0, none⟩) 6 6] 97)
  obtain ⟨X, hX⟩ : ∃ x, x = wc.alloc (.cells #[.slice (some ⟨gs, 0, none⟩) 6 6, .slice (some ⟨M, 0, none⟩) 6 6] 97) := ⟨_, rfl⟩
  have hxb := Bx.new wc 97 #[.slice (some ⟨gs, 0, none⟩) 6 6, .slice (some ⟨M, 0, none⟩) 6 6]
  have hBX := hbc.alloc hbc.size (.cells #[.slice (some ⟨gs, 0, none⟩) 6 6, .slice (some ⟨M, 0, none⟩) 6 6] 97)
  rw [← hX] at hsyX hxb hBX
  have HX := Lib.hid (And.intro hsyX (HB1.out.trans (hBX.mono HB1.out.size)))
  have HXw := Lib.hid hX
  have hx0 := hxb.cell 0 _ rfl
  have hx0l := hxb.lt
  have HXc := Lib.hid hx0
  clear hsy hbc hX hBX hsyX hxb hgs hx0
  go_upto_region 7 with fail
  rw [← HXw.out]
  have hx0 := HXc.out
  go_wp2_with fail
  clear hx0
  go_loopw [10, 34] (fun v i wr => ∃ j : Nat, j ≤ 6 ∧ i = .int .i64 j ∧ OptsR X.heap.size wr l j v ∧ Below X.heap.size X wr) (fun _ i _ => 6 - (intOf i).toNat)
  case atStart => exact ⟨0, by omega, rfl, ⟨none, 0, [], rfl, World.ownsRow_nil _ _ _ _, fun i x hi => by omega⟩, Below.refl _ _⟩
  case round =>
    obtain ⟨j, hj, rfl, hO, hB⟩ := hrel
    by_cases hlt : j < 6
    · obtain ⟨x, hx⟩ : ∃ x, l[j]? = some x := ⟨_, List.getElem?_eq_getElem (by rw [Hl.out.2]; exact hlt)⟩
      obtain ⟨hs5, hbt⟩ := Hsym.out j x hx
      have hcs := cellL (symsV_at' HX.out.1 j x hx hlt) hB
      have hgl : gs < wr.heap.size := World.block_lt_of_cell? _ _ hcs
      obtain ⟨A, c0, vs, rfl, hrow, _⟩ := id hO
      have hw8 : IntKind.u8.wrap (j : Int) = (j : Int) := by unfold IntKind.wrap IntKind.signed IntKind.bits; simp; omega
      have HO := Lib.hid (And.intro hO (And.intro hrow (And.intro hx hB)))
      have Hbt := Lib.hid hbt
      obtain ⟨k, hk⟩ : ∃ k, k = symNo x.toNat := ⟨_, rfl⟩
      rw [← hk] at hcs hs5 Hbt
      clear hO hrow hx hB hbt hk
      go_wp2_with fail
      refine (impl_text _ _ hs5).mono ?_
      rintro e w1 ⟨rfl, hw1⟩
      rw [← hw1, Hbt.out]
      clear hw1
      go_wp2_with fail
      refine (mk_writing _ _ _).mono ?_
      rintro e w2 ⟨rfl, hb2, hS2, hO2⟩
      have hrow2 := (row_below HO.out.2.1 hb2).alloc (.cells #[.func (.func 105) #[] #[.pointer (some ⟨wr.heap.size, 0, none⟩), .pointer (some ⟨wr.heap.size + 1, 0, none⟩)]] 81)
      have HR2 := Lib.hid (And.intro hrow2 (And.intro hb2 (And.intro hS2 hO2)))
      have hsz2 := hb2.size
      have hszB := HO.out.2.2.2.size
      have hS3 : wr.heap.size + 1 < w2.heap.size := World.block_lt_of_cell? _ _ hO2
      clear hrow2 hb2 hS2 hO2 hcs
      go_wp2_with (at_builtin; refine wpList_append_lies _ rfl _ _ 100 rfl X.heap.size 81 i0 .nilFunc 1 8 Try.underlying100 hi hz0 hz1 hz2 rfl (by decide) _ j _ rfl HR2.out.1 ⟨w2.heap.size, 0, none⟩ 1 1 [.func (.func 105) #[] #[.pointer (some ⟨wr.heap.size, 0, none⟩), .pointer (some ⟨wr.heap.size + 1, 0, none⟩)]] rfl rfl (World.news_of_block (Bx.new w2 _ _)) (one_sing rfl) (by decide) ?c1 ?c2 ?c3 _ rfl ?_)
      case c1 => unfold maxLen; omega
      case c2 => omega
      case c3 => first | omega | (simp only [World.size_alloc]; omega)
      intro g1 cap1 w5 hown hg5 hat hltg
      have hBa := (Below.refl w2.heap.size w2).alloc (Nat.le_refl _) (.cells #[.func (.func 105) #[] #[.pointer (some ⟨wr.heap.size, 0, none⟩), .pointer (some ⟨wr.heap.size + 1, 0, none⟩)]] 81)
      have hN : OptsR X.heap.size w5 l (j + 1) (.slice (some ⟨g1, 0, none⟩) (j + 1) cap1) :=
        OptsR.next HO.out.1 HO.out.2.1 HO.out.2.2.1 (HR2.out.2.1.trans (hBa.mono hsz2)) (cellL HR2.out.2.2.1 hBa) (cellL HR2.out.2.2.2 hBa) (Nat.le_refl _) (by omega) (by rw [World.size_alloc]; omega) (by rw [World.size_alloc]; omega) hown hg5 (by simpa only [World.size_alloc] using hat)
      have hb6 := HR2.out.2.1.trans (hBa.mono hsz2)
      have hB6 : Below X.heap.size X w5 := (HO.out.2.2.2.trans (hb6.mono hszB)).grown hg5 (Nat.le_trans hszB hb6.size) (fun k hk => (HR2.out.1.lt k hk).1)
      have HN := Lib.hid (And.intro hN hB6)
      clear hN hB6 hb6 hBa hown hg5 hat
      go_wp2
      go_roundw
      case rel => exact ⟨j + 1, by omega, by go_num, HN.out⟩
      case measure => simp [intOf]; omega
    · have e : j = 6 := by omega
      subst e
      rw [Hl.out.1] at hO
      have hops := OptsR.done hO
      obtain ⟨A, c0, vs, rfl, _⟩ := hO
      have HB := Lib.hid hB
      have Hops := Lib.hid hops
      clear hB hops
      go_wp2_with fail
      refine (impl_with 1 1 6 (renSeq x0 x1 x2 x3 x4 x5) _ _ (by omega) (by omega) (by omega) rfl Hops.out).mono ?_
      rintro e w1 ⟨v1, bs1, rfl, E1, hb9⟩
      have hb8 := HX.out.2.trans (HB.out.mono HX.out.2.size)
      have hb1 : Below Wr.heap.size Wr w1 := hb8.trans (hb9.mono hb8.size)
      replace E1 := rw_base hb8.size E1
      clear hb9 hb8
      obtain ⟨A0, n0, k0, A1, n1, k1, A2, n2, k2, rfl⟩ := E1.form
      have xr := HR.out.2.2.same (hb1.block _ HR.out.2.1)
      obtain ⟨r0, r1, r2, r3, r4, rl⟩ := id xr.all5
      have q0 := xr.frozen 0
      have q1 := xr.frozen 1
      have q2 := xr.frozen 2
      have q3 := xr.frozen 3
      have q4 := xr.frozen 4
      have Hf := Lib.hid (And.intro hb1 E1)
      obtain ⟨s0, hs0⟩ : ∃ x, x = (renSeq x0 x1 x2 x3 x4 x5 6).stack := ⟨_, rfl⟩
      obtain ⟨s1, hs1⟩ : ∃ x, x = (renSeq x0 x1 x2 x3 x4 x5 6).start := ⟨_, rfl⟩
      rw [← hs0, ← hs1]
      have Hs := Lib.hid (And.intro hs0 hs1)
      clear E1 hb1 xr hs0 hs1
      go_wp2
      obtain ⟨e0, e1⟩ := Hs.out
      have hE := Hf.out.2
      rw [← e0, ← e1] at hE
      obtain ⟨x5, hF, hBf⟩ := rw_home (x0 := .int .i64 s0) (x1 := .int .i64 s1) (x2 := .slice A0 n0 k0) (x3 := .slice A1 n1 k1) (x4 := .slice A2 n2 k2) (Nat.le_refl _) HR.out.1 HR.out.2.1 HR.out.2.2 Hf.out.1 hE
      have f0 := x5.cell 0 _ rfl
      have f1 := x5.cell 1 _ rfl
      have f2 := x5.cell 2 _ rfl
      have f3 := x5.cell 3 _ rfl
      have f4 := x5.cell 4 _ rfl
      unfold set5 at f0 f1 f2 f3 f4 hF hBf
      exact bodyPost_ret (v := .tuple #[.agg #[.int .i64 s0, .int .i64 s1, .slice A0 n0 k0, .slice A1 n1 k1, .slice A2 n2 k2], .int .i64 0]) (by simp [results, Try.results31, go_sem, f0, f1, f2, f3, f4]) rfl ⟨_, _, rfl, hF, hBf⟩
set_option maxHeartbeats 6400000 in
set_option maxRecDepth 100000 in
theorem impl_Rename_no (t : ByteArray) (w : World) (hs : t.size ≤ 1048576) (h : ¬ ∃ x0 x1 x2 x3 x4 x5, t = ⟨#[x0, x1, x2, x3, x4, x5]⟩ ∧ Ren6 x0 x1 x2 x3 x4 x5) : Calls Try.prog 31 #[.string t] w (PostV RwE ⟨0, 0, [], [], []⟩ 2 w) := by
  obtain ⟨r, c, hr, hS⟩ : ∃ (r : ByteArray) (c : Int), (r.toList == (⟨#[40, 40, 41, 41, 97, 97]⟩ : ByteArray).toList) = false ∧ ∀ W, Calls Try.prog 65 #[.string t] W (TupPost (.tuple #[.string r, .int .i64 c]) W) := by
    by_cases hW : IsW t
    · refine ⟨_, _, toList_neK (fun e => h ?_), fun W => impl_ShapeOf_yes t W hW⟩
      have e1 : t.data.toList.map shapeB = [40, 40, 41, 41, 97, 97] := by
        have := congrArg (fun b : ByteArray => b.data.toList) e
        simpa using this
      have hz : t.size = 6 := by
        have := congrArg List.length e1
        simpa using this
      obtain ⟨x0, x1, x2, x3, x4, x5, rfl⟩ := six_bytes hz
      have e2 : [shapeB x0, shapeB x1, shapeB x2, shapeB x3, shapeB x4, shapeB x5] = [40, 40, 41, 41, 97, 97] := e1
      simp only [List.cons.injEq, and_true] at e2
      obtain ⟨k0, k1, k2, k3, k4, k5⟩ := e2
      have hsy : ∀ x ∈ [x0, x1, x2, x3, x4, x5], 0 ≤ symNo x.toNat := hW.2
      exact ⟨x0, x1, x2, x3, x4, x5, rfl, shape_callQ k0 (hsy x0 (by simp)), shape_callQ k1 (hsy x1 (by simp)), shape_ret' k2 (hsy x2 (by simp)), shape_ret' k3 (hsy x3 (by simp)), shape_let k4 (hsy x4 (by simp)), shape_let k5 (hsy x5 (by simp))⟩
    · exact ⟨_, _, toList_neK (by decide), fun W => impl_ShapeOf_no t W hs hW⟩
  have HS1 := Lib.hid hS
  have HS2 := Lib.hid (fun W => shape_ren ren0 W)
  have hr : (r.toList == [40, 40, 41, 41, 97, 97]) = false := by
    have e : [40, 40, 41, 41, 97, 97] = (⟨#[40, 40, 41, 41, 97, 97]⟩ : ByteArray).toList := by rw [ByteArray.toList_eq]
    rw [e]; exact hr
  clear hS h hs
  have hBr := (Below.refl w.heap.size w).alloc (Nat.le_refl _) (.cells #[.int .i64 0, .int .i64 0, .slice none 0 0, .slice none 0 0, .slice none 0 0] 36)
  have hres := Bx.new w 36 #[.int .i64 0, .int .i64 0, .slice none 0 0, .slice none 0 0, .slice none 0 0]
  obtain ⟨Wr, hWr⟩ : ∃ Wr, Wr = w.alloc (.cells #[.int .i64 0, .int .i64 0, .slice none 0 0, .slice none 0 0, .slice none 0 0] 36) := ⟨_, rfl⟩
  rw [← hWr] at hBr hres
  have HR := Lib.hid (And.intro hBr (And.intro hres.lt hres))
  have hml : w.heap.size < Wr.heap.size := hres.lt
  have HWr := Lib.hid hWr
  clear hBr hres hWr
  go_enter Try.func31, Try.ntmps31
  go_wp2_with fail
  rw [← HWr.out]
  refine (HS1.out _).mono ?_
  rintro e wa ⟨rfl, hba⟩
  have HB0 := Lib.hid hba
  clear hba
  go_wp2_with fail
  refine (HS2.out _).mono ?_
  rintro e w1 ⟨rfl, hbb⟩
  have hbw := HB0.out.trans (hbb.mono HB0.out.size)
  clear hbb
  have xr := HR.out.2.2.same (hbw.block _ HR.out.2.1)
  obtain ⟨r0, r1, r2, r3, r4, rl⟩ := id xr.all5
  have q0 := xr.frozen 0
  have q1 := xr.frozen 1
  have q2 := xr.frozen 2
  have q3 := xr.frozen 3
  have q4 := xr.frozen 4
  have Hf := Lib.hid hbw
  clear xr hbw
  go_wp2
  obtain ⟨x5, hF, hBf⟩ := rw_home (x0 := .int .i64 0) (x1 := .int .i64 0) (x2 := .slice none 0 0) (x3 := .slice none 0 0) (x4 := .slice none 0 0) (Nat.le_refl _) HR.out.1 HR.out.2.1 HR.out.2.2 Hf.out (nil_rw _ _)
  have f0 := x5.cell 0 _ rfl
  have f1 := x5.cell 1 _ rfl
  have f2 := x5.cell 2 _ rfl
  have f3 := x5.cell 3 _ rfl
  have f4 := x5.cell 4 _ rfl
  unfold set5 at f0 f1 f2 f3 f4 hF hBf
  exact bodyPost_ret (v := .tuple #[.agg #[.int .i64 0, .int .i64 0, .slice none 0 0, .slice none 0 0, .slice none 0 0], .int .i64 2]) (by simp [results, Try.results31, go_sem, f0, f1, f2, f3, f4]) rfl ⟨_, _, rfl, hF, hBf⟩
theorem both_RenameRewriter (a0 : ByteArray) (hs0 : a0.size ≤ 1048576) : ∃ (rk : Rw) (r1 : Int), BdRw rk ∧ (∀ w, Calls Try.prog 30 #[.string a0] w (PostR RwE rk r1 w)) ∧ (∀ w, Calls Try.prog 31 #[.string a0] w (PostV RwE rk r1 w)) := by
  by_cases h : ∃ x0 x1 x2 x3 x4 x5, a0 = ⟨#[x0, x1, x2, x3, x4, x5]⟩ ∧ Ren6 x0 x1 x2 x3 x4 x5
  · obtain ⟨x0, x1, x2, x3, x4, x5, rfl, hr⟩ := h
    exact ⟨_, _, ren_bd, fun w => spec_Rename_yes _ _ _ _ _ _ w hr, fun w => impl_Rename_yes _ _ _ _ _ _ w hr⟩
  · exact ⟨_, _, nil_bdR, fun w => spec_Rename_no a0 w hs0 h, fun w => impl_Rename_no a0 w hs0 h⟩
end Go.Proofs.Ytmkamodmnplclaa
