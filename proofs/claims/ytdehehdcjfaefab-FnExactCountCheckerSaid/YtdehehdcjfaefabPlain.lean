/- l02Plain of the model: a state that looks at no mark, behind the others. -/
import Derived.Test.YtdehehdcjfaefabGrown
import Derived.Test.YtdehehdcjfaefabFree1
import Derived.Test.YtdehehdcjfaefabCopy2
import Derived.Test.YtdehehdcjfaefabSame6
import Derived.BigRegion
import Derived.Deep.DeepCutAuto
namespace Go.Proofs.Ytdehehdcjfaefab
open Go.RowKit
set_option linter.unusedVariables false

/-- A state more. -/
def plusCk (c : Ck) (a : Bool) (t0 t1 t2 t3 t4 t5 : Int) : Ck := { c with accept := c.accept ++ [a], call := c.call ++ [[(t0, 0), (t1, 0)]], ret := c.ret ++ [[[t2, t2], [t3, t3]]], inner := c.inner ++ [[t4, t5]] }
def Short (c : Ck) : Prop := c.accept.length ≤ 100 ∧ c.call.length ≤ 100 ∧ c.ret.length ≤ 100 ∧ c.inner.length ≤ 100

set_option maxHeartbeats 12800000 in
set_option maxRecDepth 100000 in
theorem spec_plain {base baseT b : Nat} {c : Ck} {bs bsT : List Nat} {vt : Value} (a : Bool) (t0 t1 t2 t3 t4 t5 : Int) (w : World) (hst : c.stack = 1) (hlen : Short c) (hbase : base ≤ w.heap.size) (hb : BoxAt base w b c bs) (hto : IntsE baseT w vt [t0, t1, t2, t3, t4, t5] bsT) (hd : ∀ k ∈ bsT, k ∉ b :: bs) :
    Calls Try.prog 62 #[.pointer (some ⟨b, 0, none⟩), .bool a, vt] w fun e w' => e = .returned (.tuple #[]) ∧ GrownAt base w b bs w' (plusCk c a t0 t1 t2 t3 t4 t5) := by
  obtain ⟨At, kt, rfl⟩ := RowE.slice hto
  obtain ⟨gt, rfl, hgt, _⟩ := RowE.head hto (j := 0) (by simp)
  have hto : IntsE baseT w (.slice (some ⟨gt, 0, none⟩) 6 kt) [t0, t1, t2, t3, t4, t5] bsT := hto
  have HL := Lib.hid hlen
  have Hst0 := Lib.hid hst
  have HTo := Lib.hid hto
  have HTd := Lib.hid hd
  have HTl := Lib.hid (fun k hk => ((ints_ok _).lt hto k hk).2)
  have hjl := hlen.1
  obtain ⟨va, vc, vr, vi, d1, d2, d3, d4, xb, f1, f2, f3, f4, hbs, hnd, hnb⟩ := hb.ex
  obtain ⟨A1, k1, rfl⟩ := RowE.slice f1
  obtain ⟨j, hj⟩ : ∃ j, j = c.accept.length := ⟨_, rfl⟩
  have hj100 : j ≤ 100 := by omega
  have hrow := f1.1
  rw [← hj] at xb hrow f1
  obtain ⟨i0, hi, hz0, hz1, hz2⟩ := info_parts toInfo_bool
  have hR := (Below.refl w.heap.size w).alloc (Nat.le_refl _) (.cells #[.bool a] 4)
  have HX := Lib.hid (And.intro f1 (And.intro f2 (And.intro f3 (And.intro f4 (And.intro hnd (And.intro hnb (And.intro hbs (And.intro hR (And.intro xb (And.intro hj hrow))))))))))
  have e2 := xb.cell 2 _ rfl
  have hbl := xb.lt
  clear hto hd hst hb hlen hjl hbs f1 f2 f3 f4 hnd hnb xb hR hj hrow
  change Calls Try.prog 62 #[.pointer (some ⟨b, 0, none⟩), .bool a, .slice (some ⟨gt, 0, none⟩) 6 kt] w _
  go_enter Try.func62, Try.ntmps62
  go_wp2_with (at_builtin; refine wpList_append_lies _ rfl _ _ 22 rfl base 4 i0 (.bool false) 1 1 Try.underlying22 hi hz0 hz1 hz2 rfl (by decide) _ j _ rfl (HX.out.2.2.2.2.2.2.2.2.2.2.alloc _) ⟨w.heap.size, 0, none⟩ 1 1 [.bool a] rfl rfl (World.news_of_block (p_bx w _ _)) (one_sing2 rfl) (by decide) ?c1 ?c2 ?c3 _ rfl ?_)
  case c1 => unfold maxLen; omega
  case c2 => omega
  case c3 => simp only [World.size_alloc]; omega
  intro g1 cap1 w5 hown hg5 hat hltg
  obtain ⟨f1, f2, f3, f4, hnd, hnb, hbs, hR, xb, hj, hrow⟩ := HX.out
  have hrowW := hrow.alloc (.cells #[.bool a] 4)
  have hG5 := GrownAt.accept (bs := bs) (x := a) xb f1 f2 f3 f4 hnd hnb (fun k hk => .inl (hbs ▸ hk)) (Turned.refl _ _) hbase hR hj.symm hrowW hown hg5 rfl (by show _ = some g1 ∨ g1 = _; rw [World.size_alloc]; exact hat)
  have hxbW := xb.later hR
  have hb5 : Bx w5 b 31 _ := hxbW.same (hg5.block b hxbW.lt (fun e => by
    have h1 : b ∈ d1 := by rw [f1.2, ← e]; simp
    simp only [List.mem_append, not_or] at hnb
    exact hnb.1 h1))
  have q3 := hb5.cell 2 _ rfl
  have q4 := hb5.frozen 2
  obtain ⟨X1, hX1⟩ : ∃ X1, X1 = w5.setCell ⟨b, 2, none⟩ (.slice (some ⟨g1, 0, none⟩) (j + 1) cap1) := ⟨_, rfl⟩
  have HG5 := Lib.hid (And.intro hG5 hX1)
  clear hown hg5 hat f1 f2 f3 f4 hnd hnb hbs hR xb hj hrow hrowW hxbW hb5 hG5 HX e2 hX1
  obtain ⟨c1, hc1⟩ : ∃ c1 : Ck, c1 = { c with accept := c.accept ++ [a] } := ⟨_, rfl⟩
  have Hst := Lib.hid (show c1.stack = 1 by rw [hc1]; exact Hst0.out)
  have Hlen := Lib.hid (show c1.call.length ≤ 100 by rw [hc1]; exact HL.out.2.1)
  have HC := Lib.hid hc1
  obtain ⟨hG5, hX1⟩ := HG5.out
  rw [← hc1, ← hX1] at hG5
  have HW1 := Lib.hid hX1
  have HG := Lib.hid hG5
  have HTX := Lib.hid (show IntsE baseT X1 (.slice (some ⟨gt, 0, none⟩) 6 kt) [t0, t1, t2, t3, t4, t5] bsT from (ints_ok _).kept HTo.out fun k hk => hG5.turned.block k (HTl.out k hk) (HTd.out k hk))
  clear hG5 hX1 HG5 hc1
  go_upto_region 1 with fail
  rw [← HW1.out]
  clear HW1 q3 q4
  obtain ⟨X, rfl⟩ : ∃ X, X = X1 := ⟨_, rfl⟩
  obtain ⟨⟨bs0, hbx, hsub⟩, hT, hb0⟩ := HG.out
  obtain ⟨va, vc, vr, vi, d1, d2, d3, d4, xb, f1, f2, f3, f4, rfl, hnd, hnb⟩ := hbx.ex
  obtain ⟨A1, k1, rfl⟩ := RowE.slice f1
  obtain ⟨A2, k2, rfl⟩ := ManyE.slice f2
  obtain ⟨A3, k3, rfl⟩ := ManyE.slice f3
  obtain ⟨A4, k4, rfl⟩ := ManyE.slice f4
  obtain ⟨j, hj⟩ : ∃ j, j = c1.call.length := ⟨_, rfl⟩
  have hj100 : j ≤ 100 := by have := Hlen.out; omega
  rw [← hj] at xb f2
  have HX := Lib.hid (And.intro f1 (And.intro f2 (And.intro f3 (And.intro f4 (And.intro hnd (And.intro hnb (And.intro hsub (And.intro hT (And.intro hb0 (And.intro xb hj))))))))))
  clear hbx f1 f2 f3 f4 hnd hnb hsub hT hb0 xb hj
  obtain ⟨r0, hr0, hr1, hr2, hr3⟩ := info_parts toInfo_pushes
  go_upto_region 1 with fail
  refine wp_region_free_seq1 (by kernel_rfl) [
      .val [] (fun _ => .pointer (some ⟨b, 0, none⟩)),
      .val [] (fun _ => .pointer (some ⟨b, 0, none⟩)),
      .val [] (fun _ => .pointer (some ⟨b, 0, none⟩)),
      .val [] (fun _ => .pointer (some ⟨b, 3, none⟩)),
      .val [] (fun _ => .slice A2 j k2),
      .val [] (fun _ => .slice (some ⟨gt, 0, none⟩) 6 kt),
      .val [] (fun _ => .pointer (some ⟨gt, 0, none⟩)),
      .val [] (fun _ => .int .i64 t0),
      .val [] (fun _ => .agg #[.int .i64 t0, .int .i64 0]),
      .val [] (fun _ => .slice (some ⟨gt, 0, none⟩) 6 kt),
      .val [] (fun _ => .pointer (some ⟨gt, 1, none⟩)),
      .val [] (fun _ => .int .i64 t1),
      .val [] (fun _ => .agg #[.int .i64 t1, .int .i64 0]),
      .own (LitE X.heap.size 71 #[.int .i64 t0, .int .i64 0, .int .i64 t1, .int .i64 0] 2) (),
      .dep 13 (fun r => LitE X.heap.size 69 #[r] 1) ()] 15 0 (.pointer (some ⟨b, 0, none⟩)) rfl ?hsel ?hfree ?hready (fun c a w h => h) ?hy rfl rfl ?hp ?hfw ?deps ?oks ?hforced ?hf ?steps ?tail
  case hsel => kernel_rfl
  case hfree => kernel_rfl
  case hready => kernel_rfl
  case hp => kernel_rfl
  case hfw => kernel_rfl
  case deps => kernel_rfl
  case hforced => kernel_rfl
  case hf => kernel_rfl
  case hy => exact Or.inl ⟨by first | rfl | go_simp, fun w => by first | rfl | go_simp⟩
  case oks =>
    intro F hF
    simp only [List.mem_cons, List.not_mem_nil, or_false] at hF
    rcases hF with rfl | rfl | rfl | rfl | rfl | rfl | rfl | rfl | rfl | rfl | rfl | rfl | rfl | rfl | rfl
    all_goals first | trivial | exact ⟨_, lit_ok _ _ _ _⟩ | exact ⟨_, ints_ok _⟩ | exact fun v => ⟨_, lit_ok _ _ _ _⟩
  case steps =>
    refine Steps.cons ?_ ?_
    · intro _
      refine FreeStep.val [] _ rfl rfl fun u β W hW hn fr hfr K hK => ?_
      simp only [frameL, putL, Act.put, List.setIfInBounds_toArray, List.set_cons_zero, List.set_cons_succ, Nat.zero_add, Nat.reduceAdd] at hfr
      subst hfr
      have HK := Lib.hid hK
      clear hK hn
      go_simp
      exact HK.out
    refine Steps.cons ?_ ?_
    · intro _
      refine FreeStep.val [] _ rfl rfl fun u β W hW hn fr hfr K hK => ?_
      simp only [frameL, putL, Act.put, List.setIfInBounds_toArray, List.set_cons_zero, List.set_cons_succ, Nat.zero_add, Nat.reduceAdd] at hfr
      subst hfr
      have HK := Lib.hid hK
      clear hK hn
      go_simp
      exact HK.out
    refine Steps.cons ?_ ?_
    · intro _
      refine FreeStep.val [] _ rfl rfl fun u β W hW hn fr hfr K hK => ?_
      simp only [frameL, putL, Act.put, List.setIfInBounds_toArray, List.set_cons_zero, List.set_cons_succ, Nat.zero_add, Nat.reduceAdd] at hfr
      subst hfr
      have e1 : u 1 = .pointer (some ⟨b, 0, none⟩) := Have.get (k := 1) hn rfl
      simp only [e1] at hK
      have HK := Lib.hid hK
      clear hK hn
      go_simp
      exact HK.out
    refine Steps.cons ?_ ?_
    · intro _
      refine FreeStep.val [] _ rfl rfl fun u β W hW hn fr hfr K hK => ?_
      simp only [frameL, putL, Act.put, List.setIfInBounds_toArray, List.set_cons_zero, List.set_cons_succ, Nat.zero_add, Nat.reduceAdd] at hfr
      subst hfr
      have e2 : u 2 = .pointer (some ⟨b, 0, none⟩) := Have.get (k := 2) hn rfl
      simp only [e2] at hK
      have HK := Lib.hid hK
      clear hK hn
      go_simp
      exact HK.out
    refine Steps.cons ?_ ?_
    · intro _
      refine FreeStep.val [] _ rfl rfl fun u β W hW hn fr hfr K hK => ?_
      simp only [frameL, putL, Act.put, List.setIfInBounds_toArray, List.set_cons_zero, List.set_cons_succ, Nat.zero_add, Nat.reduceAdd] at hfr
      subst hfr
      have e3 : u 3 = .pointer (some ⟨b, 3, none⟩) := Have.get (k := 3) hn rfl
      simp only [e3] at hK
      have c0 : W.cell? ⟨b, 3, none⟩ = some (.slice A2 j k2) := (HX.out.2.2.2.2.2.2.2.2.2.1.later hW).cell 3 _ rfl
      have HK := Lib.hid hK
      clear hK hn
      go_simp
      exact HK.out
    refine Steps.cons ?_ ?_
    · intro _
      refine FreeStep.val [] _ rfl rfl fun u β W hW hn fr hfr K hK => ?_
      simp only [frameL, putL, Act.put, List.setIfInBounds_toArray, List.set_cons_zero, List.set_cons_succ, Nat.zero_add, Nat.reduceAdd] at hfr
      subst hfr
      have HK := Lib.hid hK
      clear hK hn
      go_simp
      exact HK.out
    refine Steps.cons ?_ ?_
    · intro _
      refine FreeStep.val [] _ rfl rfl fun u β W hW hn fr hfr K hK => ?_
      simp only [frameL, putL, Act.put, List.setIfInBounds_toArray, List.set_cons_zero, List.set_cons_succ, Nat.zero_add, Nat.reduceAdd] at hfr
      subst hfr
      have e5 : u 5 = .slice (some ⟨gt, 0, none⟩) 6 kt := Have.get (k := 5) hn rfl
      simp only [e5] at hK
      have HK := Lib.hid hK
      clear hK hn
      go_simp
      exact HK.out
    refine Steps.cons ?_ ?_
    · intro _
      refine FreeStep.val [] _ rfl rfl fun u β W hW hn fr hfr K hK => ?_
      simp only [frameL, putL, Act.put, List.setIfInBounds_toArray, List.set_cons_zero, List.set_cons_succ, Nat.zero_add, Nat.reduceAdd] at hfr
      subst hfr
      have e6 : u 6 = .pointer (some ⟨gt, 0, none⟩) := Have.get (k := 6) hn rfl
      simp only [e6] at hK
      have c0 : W.cell? ⟨gt, 0, none⟩ = some (.int .i64 t0) := cell_later' (IntsE.cell' HTX.out (j := 0) rfl) hW
      have HK := Lib.hid hK
      clear hK hn
      go_simp
      exact HK.out
    refine Steps.cons ?_ ?_
    · intro _
      refine FreeStep.val [] _ rfl rfl fun u β W hW hn fr hfr K hK => ?_
      simp only [frameL, putL, Act.put, List.setIfInBounds_toArray, List.set_cons_zero, List.set_cons_succ, Nat.zero_add, Nat.reduceAdd] at hfr
      subst hfr
      have e7 : u 7 = .int .i64 t0 := Have.get (k := 7) hn rfl
      simp only [e7] at hK
      have HK := Lib.hid hK
      clear hK hn
      go_simp
      exact HK.out
    refine Steps.cons ?_ ?_
    · intro _
      refine FreeStep.val [] _ rfl rfl fun u β W hW hn fr hfr K hK => ?_
      simp only [frameL, putL, Act.put, List.setIfInBounds_toArray, List.set_cons_zero, List.set_cons_succ, Nat.zero_add, Nat.reduceAdd] at hfr
      subst hfr
      have HK := Lib.hid hK
      clear hK hn
      go_simp
      exact HK.out
    refine Steps.cons ?_ ?_
    · intro _
      refine FreeStep.val [] _ rfl rfl fun u β W hW hn fr hfr K hK => ?_
      simp only [frameL, putL, Act.put, List.setIfInBounds_toArray, List.set_cons_zero, List.set_cons_succ, Nat.zero_add, Nat.reduceAdd] at hfr
      subst hfr
      have e9 : u 9 = .slice (some ⟨gt, 0, none⟩) 6 kt := Have.get (k := 9) hn rfl
      simp only [e9] at hK
      have HK := Lib.hid hK
      clear hK hn
      go_simp
      exact HK.out
    refine Steps.cons ?_ ?_
    · intro _
      refine FreeStep.val [] _ rfl rfl fun u β W hW hn fr hfr K hK => ?_
      simp only [frameL, putL, Act.put, List.setIfInBounds_toArray, List.set_cons_zero, List.set_cons_succ, Nat.zero_add, Nat.reduceAdd] at hfr
      subst hfr
      have e10 : u 10 = .pointer (some ⟨gt, 1, none⟩) := Have.get (k := 10) hn rfl
      simp only [e10] at hK
      have c0 : W.cell? ⟨gt, 1, none⟩ = some (.int .i64 t1) := cell_later' (IntsE.cell' HTX.out (j := 1) rfl) hW
      have HK := Lib.hid hK
      clear hK hn
      go_simp
      exact HK.out
    refine Steps.cons ?_ ?_
    · intro _
      refine FreeStep.val [] _ rfl rfl fun u β W hW hn fr hfr K hK => ?_
      simp only [frameL, putL, Act.put, List.setIfInBounds_toArray, List.set_cons_zero, List.set_cons_succ, Nat.zero_add, Nat.reduceAdd] at hfr
      subst hfr
      have e11 : u 11 = .int .i64 t1 := Have.get (k := 11) hn rfl
      simp only [e11] at hK
      have HK := Lib.hid hK
      clear hK hn
      go_simp
      exact HK.out
    refine Steps.cons ?_ ?_
    · intro _
      refine FreeStep.own (base := X.heap.size) rfl (lit_ok _ _ _ _) fun u β W hW hn fr hfr K hK => ?_
      simp only [frameL, putL, Act.put, List.setIfInBounds_toArray, List.set_cons_zero, List.set_cons_succ, Nat.zero_add, Nat.reduceAdd] at hfr
      subst hfr
      have e8 : u 8 = .agg #[.int .i64 t0, .int .i64 0] := Have.get (k := 8) hn rfl
      have e12 : u 12 = .agg #[.int .i64 t1, .int .i64 0] := Have.get (k := 12) hn rfl
      simp only [e8, e12] at hK
      have hsz := hW.size
      have HK := Lib.hid hK
      clear hK hn
      go_simp
      exact HK.out _ [W.heap.size] _ ((Below.refl _ _).alloc (Nat.le_refl _) _) (LitE.new _ _ _ W hsz) (fun b hb => by rw [List.mem_singleton.1 hb]; exact Nat.le_refl _)
    refine Steps.cons ?_ ?_
    · intro _
      refine FreeStep.dep (base := X.heap.size) rfl (by decide) (fun v => lit_ok _ _ _ _) fun u β W hW hn fr hfr K hK => ?_
      simp only [frameL, putL, Act.put, List.setIfInBounds_toArray, List.set_cons_zero, List.set_cons_succ, Nat.zero_add, Nat.reduceAdd] at hfr
      subst hfr
      have f13 : LitE X.heap.size 71 #[.int .i64 t0, .int .i64 0, .int .i64 t1, .int .i64 0] 2 W (u 13) () (β 13) := Have.get (k := 13) hn rfl
      obtain ⟨b13, g13, _, _, _⟩ := f13
      have H13 := Lib.hid g13
      have hsz := hW.size
      have HK := Lib.hid hK
      clear hK hn
      rw [g13] at HK ⊢
      go_simp
      exact HK.out _ [W.heap.size] _ ((Below.refl _ _).alloc (Nat.le_refl _) _) (LitE.new _ _ _ W hsz) (fun b hb => by rw [List.mem_singleton.1 hb]; exact Nat.le_refl _)
    exact ⟨fun h => absurd h (by decide), fun h => absurd h (by decide), fun h => absurd h (by decide), fun h => absurd h (by decide), trivial⟩
  case tail =>
    intro u β W hW hn hdis hbnd fr hfr
    simp only [frameL, putL, Act.put, List.setIfInBounds_toArray, List.set_cons_zero, List.set_cons_succ, Nat.zero_add, Nat.reduceAdd] at hfr
    subst hfr
    have e0 : u 0 = .pointer (some ⟨b, 0, none⟩) := Have.get (k := 0) hn rfl
    have eL : u 4 = .slice A2 j k2 := Have.get (k := 4) hn rfl
    have fO : LitE X.heap.size 69 #[u 13] 1 W (u 14) () (β 14) := Have.get (k := 14) hn rfl
    have f13 : LitE X.heap.size 71 #[.int .i64 t0, .int .i64 0, .int .i64 t1, .int .i64 0] 2 W (u 13) () (β 13) := Have.get (k := 13) hn rfl
    obtain ⟨b13, g13, hb13, hβ13, hl13⟩ := f13
    have hr : PushE X.heap.size W (.slice (some ⟨b13, 0, none⟩) 2 2) [(t0, 0), (t1, 0)] [b13] := rowE_lit 2 hb13 hl13 rfl rfl rfl (by unfold maxLen; omega)
    obtain ⟨bo, go, hbo, _, hlo⟩ := fO
    rw [g13] at hbo
    obtain ⟨f1, f2, f3, f4, hnd, hnb, hsub, hT, hb0, xb, hj⟩ := HX.out
    obtain ⟨vs, hrow', _⟩ := ((push2_ok _).later f2 hW).held
    rw [← hj] at hrow'
    have hxbW := xb.later hW
    have hw0 : base ≤ W.heap.size := Nat.le_trans hb0 (Nat.le_trans hT.size hW.size)
    have hCC := Lib.hid (fun (w5 : World) (g1 cap1 : Nat) (hown : w5.ownsRow base 69 1 (.slice (some ⟨g1, 0, none⟩) (j + 1) cap1) (j + 1) (vs ++ [.slice (some ⟨b13, 0, none⟩) 2 2])) (hg : W.grownBy w5 (Value.slice A2 j k2).ownBlock) (hat : (Value.slice A2 j k2).ownBlock = some g1 ∨ g1 = W.heap.size) =>
      GrownAt.call (x := [(t0, 0), (t1, 0)]) xb f1 f2 f3 f4 hnd hnb hsub hT hb0 hW hr hj.symm hrow' hown hg rfl hat)
    have hbn := Lib.hid (fun (w5 : World) (hg : W.grownBy w5 (Value.slice A2 j k2).ownBlock) => show Bx w5 b 31 _ from hxbW.same (hg.block b hxbW.lt (fun e => by
      have h1 := f2.held.choose_spec.2 b e.symm
      simp only [List.mem_append, not_or] at hnb
      exact hnb.2.1 h1)))
    clear f1 f2 f3 f4 hnd hnb hsub hT hb0 xb hj hxbW hn hdis hbnd hr
    show wpOps _ _ _ [15, 16, 17, 18] _ _
    rw [wpOps_cons]
    refine wpOp_step rfl (fun K hK => ?_)
    refine step_append_lies _ rfl _ _ 29 rfl base 69 r0 (.slice none 0 0) 1 24 Try.underlying29 hr0 hr1 hr2 hr3 rfl (by decide) _ j _ eL hrow' ⟨bo, 0, none⟩ 1 1 [.slice (some ⟨b13, 0, none⟩) 2 2] go rfl (World.news_of_block hbo) (one_sing2 rfl) (by decide) ?c1 ?c2 ?c3 _ rfl ?_
    case c1 => unfold maxLen; omega
    case c2 => omega
    case c3 => exact hw0
    intro g1 cap1 w5 hown hg5 hat hltg
    refine hK _ _ ?_
    have hG5 := hCC.out w5 g1 cap1 hown hg5 hat
    have hb5 := hbn.out w5 hg5
    have q3 := hb5.cell 3 _ rfl
    have q4 := hb5.frozen 3
    have HG5 := Lib.hid hG5
    clear hown hg5 hat hK hb5 hG5
    rw [wpOps_cons]
    refine wpOp_step rfl (fun K2 hK => ?_)
    go_simp
    refine hK _ _ ?_
    clear hK
    rw [wpOps_cons]
    refine wpOp_step rfl (fun K3 hK => ?_)
    go_simp
    refine hK _ _ ?_
    clear hK
    rw [wpOps_cons]
    refine wpOp_step rfl (fun K4 hK => ?_)
    go_simp
    refine hK _ _ ?_
    clear hK
    unfold wpOps
    have hG5 := HG5.out
    obtain ⟨X1, hX1⟩ : ∃ X1, X1 = w5.setCell ⟨b, 3, none⟩ (.slice (some ⟨g1, 0, none⟩) (j + 1) cap1) := ⟨_, rfl⟩
    rw [← hX1] at hG5 ⊢
    have HG1 := Lib.hid hG5
    clear hG5 HG5 hX1 q3 q4 HX hCC hbn
    generalize u 0 = s0
    generalize u 1 = s1
    generalize u 2 = s2
    generalize u 3 = s3
    generalize u 4 = s4
    generalize u 5 = s5
    generalize u 6 = s6
    generalize u 7 = s7
    generalize u 8 = s8
    generalize u 9 = s9
    generalize u 10 = s10
    generalize u 11 = s11
    generalize u 12 = s12
    generalize u 13 = s13
    generalize u 14 = s14
    obtain ⟨c2, hc2⟩ : ∃ c2 : Ck, c2 = { c1 with call := c1.call ++ [[(t0, 0), (t1, 0)]] } := ⟨_, rfl⟩
    have hG5 := HG1.out
    rw [← hc2] at hG5
    have Hst2 := Lib.hid (show c2.stack = 1 by rw [hc2]; exact Hst.out)
    have Hlen2 := Lib.hid (show c2.ret.length ≤ 100 by rw [hc2, HC.out]; exact HL.out.2.2.1)
    have HC2 := Lib.hid (show c2 = _ by rw [hc2, HC.out])
    have HTX2 := Lib.hid (show IntsE baseT X1 (.slice (some ⟨gt, 0, none⟩) 6 kt) [t0, t1, t2, t3, t4, t5] bsT from (ints_ok _).kept HTo.out fun k hk => hG5.turned.block k (HTl.out k hk) (HTd.out k hk))
    have HG2 := Lib.hid hG5
    clear hG5 hc2 HG1 HG Hst Hlen HC HTX hr0 hr1 hr2 hr3 r0
    obtain ⟨X, rfl⟩ : ∃ X, X = X1 := ⟨_, rfl⟩
    obtain ⟨c1, rfl⟩ : ∃ c, c = c2 := ⟨_, rfl⟩
    have Hst := Hst2
    have Hlen := Hlen2
    have HC := HC2
    have HTX := HTX2
    have HG := HG2
    clear Hst2 Hlen2 HC2 HTX2 HG2
    obtain ⟨⟨bs0, hbx, hsub⟩, hT, hb0⟩ := HG.out
    obtain ⟨va, vc, vr, vi, d1, d2, d3, d4, xb, f1, f2, f3, f4, rfl, hnd, hnb⟩ := hbx.ex
    obtain ⟨A1, k1, rfl⟩ := RowE.slice f1
    obtain ⟨A2, k2, rfl⟩ := ManyE.slice f2
    obtain ⟨A3, k3, rfl⟩ := ManyE.slice f3
    obtain ⟨A4, k4, rfl⟩ := ManyE.slice f4
    obtain ⟨j, hj⟩ : ∃ j, j = c1.ret.length := ⟨_, rfl⟩
    have hj100 : j ≤ 100 := by have := Hlen.out; omega
    rw [← hj] at xb f3
    have HX := Lib.hid (And.intro f1 (And.intro f2 (And.intro f3 (And.intro f4 (And.intro hnd (And.intro hnb (And.intro hsub (And.intro hT (And.intro hb0 (And.intro xb hj))))))))))
    clear hbx f1 f2 f3 f4 hnd hnb hsub hT hb0 xb hj
    obtain ⟨r0, hr0, hr1, hr2, hr3⟩ := info_parts toInfo_ints2
    go_upto_region 2 with fail
    refine wp_region_free_seq1 (by kernel_rfl) [
        .val [] (fun _ => .pointer (some ⟨b, 0, none⟩)),
        .val [] (fun _ => .pointer (some ⟨b, 0, none⟩)),
        .val [] (fun _ => .pointer (some ⟨b, 0, none⟩)),
        .val [] (fun _ => .pointer (some ⟨b, 4, none⟩)),
        .val [] (fun _ => .slice A3 j k3),
        .val [] (fun _ => .slice (some ⟨gt, 0, none⟩) 6 kt),
        .val [] (fun _ => .pointer (some ⟨gt, 2, none⟩)),
        .val [] (fun _ => .int .i64 t2),
        .val [] (fun _ => .pointer (some ⟨b, 0, none⟩)),
        .val [] (fun _ => .pointer (some ⟨b, 0, none⟩)),
        .val [] (fun _ => .pointer (some ⟨b, 0, none⟩)),
        .val [] (fun _ => .int .i64 1),
        .val [] (fun _ => .int .i64 2),
        .own (IntsE X.heap.size) [t2, t2],
        .val [] (fun _ => .slice (some ⟨gt, 0, none⟩) 6 kt),
        .val [] (fun _ => .pointer (some ⟨gt, 3, none⟩)),
        .val [] (fun _ => .int .i64 t3),
        .val [] (fun _ => .pointer (some ⟨b, 0, none⟩)),
        .val [] (fun _ => .pointer (some ⟨b, 0, none⟩)),
        .val [] (fun _ => .pointer (some ⟨b, 0, none⟩)),
        .val [] (fun _ => .int .i64 1),
        .val [] (fun _ => .int .i64 2),
        .own (IntsE X.heap.size) [t3, t3],
        .depl [13, 22] (fun u => LitE X.heap.size 38 #[u 13, u 22] 2) (),
        .dep 23 (fun r => LitE X.heap.size 25 #[r] 1) ()] 25 0 (.pointer (some ⟨b, 0, none⟩)) rfl ?hsel ?hfree ?hready (fun c a w h => h) ?hy rfl rfl ?hp ?hfw ?deps ?oks ?hforced ?hf ?steps ?tail
    case hsel => kernel_rfl
    case hfree => kernel_rfl
    case hready => kernel_rfl
    case hp => kernel_rfl
    case hfw => kernel_rfl
    case deps => kernel_rfl
    case hforced => kernel_rfl
    case hf => kernel_rfl
    case hy => exact Or.inl ⟨by first | rfl | go_simp, fun w => by first | rfl | go_simp⟩
    case oks =>
      intro F hF
      simp only [List.mem_cons, List.not_mem_nil, or_false] at hF
      rcases hF with rfl | rfl | rfl | rfl | rfl | rfl | rfl | rfl | rfl | rfl | rfl | rfl | rfl | rfl | rfl | rfl | rfl | rfl | rfl | rfl | rfl | rfl | rfl | rfl | rfl
      all_goals first | trivial | exact ⟨_, lit_ok _ _ _ _⟩ | exact ⟨_, ints_ok _⟩ | exact fun v => ⟨_, lit_ok _ _ _ _⟩
    case steps =>
      refine Steps.cons ?_ ?_
      · intro _
        refine FreeStep.val [] _ rfl rfl fun u β W hW hn fr hfr K hK => ?_
        simp only [frameL, putL, Act.put, List.setIfInBounds_toArray, List.set_cons_zero, List.set_cons_succ, Nat.zero_add, Nat.reduceAdd] at hfr
        subst hfr
        have HK := Lib.hid hK
        clear hK hn
        go_simp
        exact HK.out
      refine Steps.cons ?_ ?_
      · intro _
        refine FreeStep.val [] _ rfl rfl fun u β W hW hn fr hfr K hK => ?_
        simp only [frameL, putL, Act.put, List.setIfInBounds_toArray, List.set_cons_zero, List.set_cons_succ, Nat.zero_add, Nat.reduceAdd] at hfr
        subst hfr
        have HK := Lib.hid hK
        clear hK hn
        go_simp
        exact HK.out
      refine Steps.cons ?_ ?_
      · intro _
        refine FreeStep.val [] _ rfl rfl fun u β W hW hn fr hfr K hK => ?_
        simp only [frameL, putL, Act.put, List.setIfInBounds_toArray, List.set_cons_zero, List.set_cons_succ, Nat.zero_add, Nat.reduceAdd] at hfr
        subst hfr
        have e1 : u 1 = .pointer (some ⟨b, 0, none⟩) := Have.get (k := 1) hn rfl
        simp only [e1] at hK
        have HK := Lib.hid hK
        clear hK hn
        go_simp
        exact HK.out
      refine Steps.cons ?_ ?_
      · intro _
        refine FreeStep.val [] _ rfl rfl fun u β W hW hn fr hfr K hK => ?_
        simp only [frameL, putL, Act.put, List.setIfInBounds_toArray, List.set_cons_zero, List.set_cons_succ, Nat.zero_add, Nat.reduceAdd] at hfr
        subst hfr
        have e2 : u 2 = .pointer (some ⟨b, 0, none⟩) := Have.get (k := 2) hn rfl
        simp only [e2] at hK
        have HK := Lib.hid hK
        clear hK hn
        go_simp
        exact HK.out
      refine Steps.cons ?_ ?_
      · intro _
        refine FreeStep.val [] _ rfl rfl fun u β W hW hn fr hfr K hK => ?_
        simp only [frameL, putL, Act.put, List.setIfInBounds_toArray, List.set_cons_zero, List.set_cons_succ, Nat.zero_add, Nat.reduceAdd] at hfr
        subst hfr
        have e3 : u 3 = .pointer (some ⟨b, 4, none⟩) := Have.get (k := 3) hn rfl
        simp only [e3] at hK
        have c0 : W.cell? ⟨b, 4, none⟩ = some (.slice A3 j k3) := (HX.out.2.2.2.2.2.2.2.2.2.1.later hW).cell 4 _ rfl
        have HK := Lib.hid hK
        clear hK hn
        go_simp
        exact HK.out
      refine Steps.cons ?_ ?_
      · intro _
        refine FreeStep.val [] _ rfl rfl fun u β W hW hn fr hfr K hK => ?_
        simp only [frameL, putL, Act.put, List.setIfInBounds_toArray, List.set_cons_zero, List.set_cons_succ, Nat.zero_add, Nat.reduceAdd] at hfr
        subst hfr
        have HK := Lib.hid hK
        clear hK hn
        go_simp
        exact HK.out
      refine Steps.cons ?_ ?_
      · intro _
        refine FreeStep.val [] _ rfl rfl fun u β W hW hn fr hfr K hK => ?_
        simp only [frameL, putL, Act.put, List.setIfInBounds_toArray, List.set_cons_zero, List.set_cons_succ, Nat.zero_add, Nat.reduceAdd] at hfr
        subst hfr
        have e5 : u 5 = .slice (some ⟨gt, 0, none⟩) 6 kt := Have.get (k := 5) hn rfl
        simp only [e5] at hK
        have HK := Lib.hid hK
        clear hK hn
        go_simp
        exact HK.out
      refine Steps.cons ?_ ?_
      · intro _
        refine FreeStep.val [] _ rfl rfl fun u β W hW hn fr hfr K hK => ?_
        simp only [frameL, putL, Act.put, List.setIfInBounds_toArray, List.set_cons_zero, List.set_cons_succ, Nat.zero_add, Nat.reduceAdd] at hfr
        subst hfr
        have e6 : u 6 = .pointer (some ⟨gt, 2, none⟩) := Have.get (k := 6) hn rfl
        simp only [e6] at hK
        have c0 : W.cell? ⟨gt, 2, none⟩ = some (.int .i64 t2) := cell_later' (IntsE.cell' HTX.out (j := 2) rfl) hW
        have HK := Lib.hid hK
        clear hK hn
        go_simp
        exact HK.out
      refine Steps.cons ?_ ?_
      · intro _
        refine FreeStep.val [] _ rfl rfl fun u β W hW hn fr hfr K hK => ?_
        simp only [frameL, putL, Act.put, List.setIfInBounds_toArray, List.set_cons_zero, List.set_cons_succ, Nat.zero_add, Nat.reduceAdd] at hfr
        subst hfr
        have HK := Lib.hid hK
        clear hK hn
        go_simp
        exact HK.out
      refine Steps.cons ?_ ?_
      · intro _
        refine FreeStep.val [] _ rfl rfl fun u β W hW hn fr hfr K hK => ?_
        simp only [frameL, putL, Act.put, List.setIfInBounds_toArray, List.set_cons_zero, List.set_cons_succ, Nat.zero_add, Nat.reduceAdd] at hfr
        subst hfr
        have e8 : u 8 = .pointer (some ⟨b, 0, none⟩) := Have.get (k := 8) hn rfl
        simp only [e8] at hK
        have HK := Lib.hid hK
        clear hK hn
        go_simp
        exact HK.out
      refine Steps.cons ?_ ?_
      · intro _
        refine FreeStep.val [] _ rfl rfl fun u β W hW hn fr hfr K hK => ?_
        simp only [frameL, putL, Act.put, List.setIfInBounds_toArray, List.set_cons_zero, List.set_cons_succ, Nat.zero_add, Nat.reduceAdd] at hfr
        subst hfr
        have e9 : u 9 = .pointer (some ⟨b, 0, none⟩) := Have.get (k := 9) hn rfl
        simp only [e9] at hK
        have HK := Lib.hid hK
        clear hK hn
        go_simp
        exact HK.out
      refine Steps.cons ?_ ?_
      · intro _
        refine FreeStep.val [] _ rfl rfl fun u β W hW hn fr hfr K hK => ?_
        simp only [frameL, putL, Act.put, List.setIfInBounds_toArray, List.set_cons_zero, List.set_cons_succ, Nat.zero_add, Nat.reduceAdd] at hfr
        subst hfr
        have e10 : u 10 = .pointer (some ⟨b, 0, none⟩) := Have.get (k := 10) hn rfl
        simp only [e10] at hK
        have c0 : W.cell? ⟨b, 0, none⟩ = some (.int .i64 1) := by rw [← Hst.out]; exact (HX.out.2.2.2.2.2.2.2.2.2.1.later hW).cell 0 _ rfl
        have HK := Lib.hid hK
        clear hK hn
        go_simp
        exact HK.out
      refine Steps.cons ?_ ?_
      · intro _
        refine FreeStep.val [] _ rfl rfl fun u β W hW hn fr hfr K hK => ?_
        simp only [frameL, putL, Act.put, List.setIfInBounds_toArray, List.set_cons_zero, List.set_cons_succ, Nat.zero_add, Nat.reduceAdd] at hfr
        subst hfr
        have e11 : u 11 = .int .i64 1 := Have.get (k := 11) hn rfl
        simp only [e11] at hK
        have HK := Lib.hid hK
        clear hK hn
        go_simp
        exact HK.out
      refine Steps.cons ?_ ?_
      · intro _
        refine FreeStep.own (base := X.heap.size) rfl (ints_ok _) fun u β W hW hn fr hfr K hK => ?_
        simp only [frameL, putL, Act.put, List.setIfInBounds_toArray, List.set_cons_zero, List.set_cons_succ, Nat.zero_add, Nat.reduceAdd] at hfr
        subst hfr
        have e7 : u 7 = .int .i64 t2 := Have.get (k := 7) hn rfl
        have e12 : u 12 = .int .i64 2 := Have.get (k := 12) hn rfl
        simp only [e7, e12] at hK
        have hsz := hW.size
        have Q := Lib.hid (spec_same6 t2 2 (by omega) W)
        have HK := Lib.hid hK
        clear hK hn
        go_simp
        refine Q.out.mono ?_
        rintro e w1 ⟨v1, bs1, rfl, hE1, hB1⟩
        exact HK.out v1 bs1 w1 hB1 (ints_base hsz _ _ _ _ hE1) (fun k hk => ((ints_ok _).lt hE1 k hk).1)
      refine Steps.cons ?_ ?_
      · intro _
        refine FreeStep.val [] _ rfl rfl fun u β W hW hn fr hfr K hK => ?_
        simp only [frameL, putL, Act.put, List.setIfInBounds_toArray, List.set_cons_zero, List.set_cons_succ, Nat.zero_add, Nat.reduceAdd] at hfr
        subst hfr
        have HK := Lib.hid hK
        clear hK hn
        go_simp
        exact HK.out
      refine Steps.cons ?_ ?_
      · intro _
        refine FreeStep.val [] _ rfl rfl fun u β W hW hn fr hfr K hK => ?_
        simp only [frameL, putL, Act.put, List.setIfInBounds_toArray, List.set_cons_zero, List.set_cons_succ, Nat.zero_add, Nat.reduceAdd] at hfr
        subst hfr
        have e14 : u 14 = .slice (some ⟨gt, 0, none⟩) 6 kt := Have.get (k := 14) hn rfl
        simp only [e14] at hK
        have HK := Lib.hid hK
        clear hK hn
        go_simp
        exact HK.out
      refine Steps.cons ?_ ?_
      · intro _
        refine FreeStep.val [] _ rfl rfl fun u β W hW hn fr hfr K hK => ?_
        simp only [frameL, putL, Act.put, List.setIfInBounds_toArray, List.set_cons_zero, List.set_cons_succ, Nat.zero_add, Nat.reduceAdd] at hfr
        subst hfr
        have e15 : u 15 = .pointer (some ⟨gt, 3, none⟩) := Have.get (k := 15) hn rfl
        simp only [e15] at hK
        have c0 : W.cell? ⟨gt, 3, none⟩ = some (.int .i64 t3) := cell_later' (IntsE.cell' HTX.out (j := 3) rfl) hW
        have HK := Lib.hid hK
        clear hK hn
        go_simp
        exact HK.out
      refine Steps.cons ?_ ?_
      · intro _
        refine FreeStep.val [] _ rfl rfl fun u β W hW hn fr hfr K hK => ?_
        simp only [frameL, putL, Act.put, List.setIfInBounds_toArray, List.set_cons_zero, List.set_cons_succ, Nat.zero_add, Nat.reduceAdd] at hfr
        subst hfr
        have HK := Lib.hid hK
        clear hK hn
        go_simp
        exact HK.out
      refine Steps.cons ?_ ?_
      · intro _
        refine FreeStep.val [] _ rfl rfl fun u β W hW hn fr hfr K hK => ?_
        simp only [frameL, putL, Act.put, List.setIfInBounds_toArray, List.set_cons_zero, List.set_cons_succ, Nat.zero_add, Nat.reduceAdd] at hfr
        subst hfr
        have e17 : u 17 = .pointer (some ⟨b, 0, none⟩) := Have.get (k := 17) hn rfl
        simp only [e17] at hK
        have HK := Lib.hid hK
        clear hK hn
        go_simp
        exact HK.out
      refine Steps.cons ?_ ?_
      · intro _
        refine FreeStep.val [] _ rfl rfl fun u β W hW hn fr hfr K hK => ?_
        simp only [frameL, putL, Act.put, List.setIfInBounds_toArray, List.set_cons_zero, List.set_cons_succ, Nat.zero_add, Nat.reduceAdd] at hfr
        subst hfr
        have e18 : u 18 = .pointer (some ⟨b, 0, none⟩) := Have.get (k := 18) hn rfl
        simp only [e18] at hK
        have HK := Lib.hid hK
        clear hK hn
        go_simp
        exact HK.out
      refine Steps.cons ?_ ?_
      · intro _
        refine FreeStep.val [] _ rfl rfl fun u β W hW hn fr hfr K hK => ?_
        simp only [frameL, putL, Act.put, List.setIfInBounds_toArray, List.set_cons_zero, List.set_cons_succ, Nat.zero_add, Nat.reduceAdd] at hfr
        subst hfr
        have e19 : u 19 = .pointer (some ⟨b, 0, none⟩) := Have.get (k := 19) hn rfl
        simp only [e19] at hK
        have c0 : W.cell? ⟨b, 0, none⟩ = some (.int .i64 1) := by rw [← Hst.out]; exact (HX.out.2.2.2.2.2.2.2.2.2.1.later hW).cell 0 _ rfl
        have HK := Lib.hid hK
        clear hK hn
        go_simp
        exact HK.out
      refine Steps.cons ?_ ?_
      · intro _
        refine FreeStep.val [] _ rfl rfl fun u β W hW hn fr hfr K hK => ?_
        simp only [frameL, putL, Act.put, List.setIfInBounds_toArray, List.set_cons_zero, List.set_cons_succ, Nat.zero_add, Nat.reduceAdd] at hfr
        subst hfr
        have e20 : u 20 = .int .i64 1 := Have.get (k := 20) hn rfl
        simp only [e20] at hK
        have HK := Lib.hid hK
        clear hK hn
        go_simp
        exact HK.out
      refine Steps.cons ?_ ?_
      · intro _
        refine FreeStep.own (base := X.heap.size) rfl (ints_ok _) fun u β W hW hn fr hfr K hK => ?_
        simp only [frameL, putL, Act.put, List.setIfInBounds_toArray, List.set_cons_zero, List.set_cons_succ, Nat.zero_add, Nat.reduceAdd] at hfr
        subst hfr
        have e16 : u 16 = .int .i64 t3 := Have.get (k := 16) hn rfl
        have e21 : u 21 = .int .i64 2 := Have.get (k := 21) hn rfl
        simp only [e16, e21] at hK
        have hsz := hW.size
        have Q := Lib.hid (spec_same6 t3 2 (by omega) W)
        have HK := Lib.hid hK
        clear hK hn
        go_simp
        refine Q.out.mono ?_
        rintro e w1 ⟨v1, bs1, rfl, hE1, hB1⟩
        exact HK.out v1 bs1 w1 hB1 (ints_base hsz _ _ _ _ hE1) (fun k hk => ((ints_ok _).lt hE1 k hk).1)
      refine Steps.cons ?_ ?_
      · intro _
        refine FreeStep.depl (base := X.heap.size) rfl rfl (fun v => lit_ok _ _ _ _) fun u β W hW hn fr hfr K hK => ?_
        simp only [frameL, putL, Act.put, List.setIfInBounds_toArray, List.set_cons_zero, List.set_cons_succ, Nat.zero_add, Nat.reduceAdd] at hfr
        subst hfr
        have f13 : IntsE X.heap.size W (u 13) [t2, t2] (β 13) := Have.get (k := 13) hn rfl
        have f22 : IntsE X.heap.size W (u 22) [t3, t3] (β 22) := Have.get (k := 22) hn rfl
        obtain ⟨A13, k13, g13⟩ := RowE.slice f13
        obtain ⟨A22, k22, g22⟩ := RowE.slice f22
        have hon : only [13, 22] u 13 = u 13 ∧ only [13, 22] u 22 = u 22 := ⟨rfl, rfl⟩
        simp only [hon.1, hon.2, g13, g22] at hK
        have hsz := hW.size
        have HK := Lib.hid hK
        clear hK hn f13 f22 hon
        rw [g13, g22]
        go_simp
        exact HK.out _ [W.heap.size] _ ((Below.refl _ _).alloc (Nat.le_refl _) _) (LitE.new _ _ _ W hsz) (fun b hb => by rw [List.mem_singleton.1 hb]; exact Nat.le_refl _)
      refine Steps.cons ?_ ?_
      · intro _
        refine FreeStep.dep (base := X.heap.size) rfl (by decide) (fun v => lit_ok _ _ _ _) fun u β W hW hn fr hfr K hK => ?_
        simp only [frameL, putL, Act.put, List.setIfInBounds_toArray, List.set_cons_zero, List.set_cons_succ, Nat.zero_add, Nat.reduceAdd] at hfr
        subst hfr
        have f23 : LitE X.heap.size 38 #[u 13, u 22] 2 W (u 23) () (β 23) := Have.get (k := 23) hn rfl
        obtain ⟨b23, g23, _, _, _⟩ := f23
        have H23 := Lib.hid g23
        have hsz := hW.size
        have HK := Lib.hid hK
        clear hK hn
        rw [g23] at HK ⊢
        go_simp
        exact HK.out _ [W.heap.size] _ ((Below.refl _ _).alloc (Nat.le_refl _) _) (LitE.new _ _ _ W hsz) (fun b hb => by rw [List.mem_singleton.1 hb]; exact Nat.le_refl _)
      exact ⟨fun h => absurd h (by decide), fun h => absurd h (by decide), fun h => absurd h (by decide), fun h => absurd h (by decide), trivial⟩
    case tail =>
      intro u β W hW hn hdis hbnd fr hfr
      simp only [frameL, putL, Act.put, List.setIfInBounds_toArray, List.set_cons_zero, List.set_cons_succ, Nat.zero_add, Nat.reduceAdd] at hfr
      subst hfr
      have e0 : u 0 = .pointer (some ⟨b, 0, none⟩) := Have.get (k := 0) hn rfl
      have eL : u 4 = .slice A3 j k3 := Have.get (k := 4) hn rfl
      have fO : LitE X.heap.size 25 #[u 23] 1 W (u 24) () (β 24) := Have.get (k := 24) hn rfl
      have f13 : IntsE X.heap.size W (u 13) [t2, t2] (β 13) := Have.get (k := 13) hn rfl
      have f22 : IntsE X.heap.size W (u 22) [t3, t3] (β 22) := Have.get (k := 22) hn rfl
      have f23 : LitE X.heap.size 38 #[u 13, u 22] 2 W (u 23) () (β 23) := Have.get (k := 23) hn rfl
      obtain ⟨b23, g23, hb23, hβ23, hl23⟩ := f23
      have hnd2 : (b23 :: [β 13, β 22].flatten).Nodup := by
        have m1 := (ints_ok _).nodup f13
        have m2 := (ints_ok _).nodup f22
        have k1 : b23 ∉ β 13 := fun h => hdis 13 23 (by decide) (by decide) (by decide) b23 h (by rw [hβ23]; simp)
        have k2 : b23 ∉ β 22 := fun h => hdis 22 23 (by decide) (by decide) (by decide) b23 h (by rw [hβ23]; simp)
        have k3 := hdis 13 22 (by decide) (by decide) (by decide)
        simp only [List.flatten_cons, List.flatten_nil, List.append_nil, List.nodup_cons, List.mem_append, not_or]
        exact ⟨⟨k1, k2⟩, List.nodup_append.2 ⟨m1, m2, fun a h1 b h2 e => k3 a h1 (e ▸ h2)⟩⟩
      have hr : Ints2E X.heap.size W (.slice (some ⟨b23, 0, none⟩) 2 2) [[t2, t2], [t3, t3]] (b23 :: [β 13, β 22].flatten) := many_lit 2 hb23 hl23 rfl ⟨f13, f22, trivial⟩ hnd2 (by unfold maxLen; omega)
      clear hnd2 f13 f22
      obtain ⟨bo, go, hbo, _, hlo⟩ := fO
      rw [g23] at hbo
      obtain ⟨f1, f2, f3, f4, hnd, hnb, hsub, hT, hb0, xb, hj⟩ := HX.out
      obtain ⟨vs, hrow', _⟩ := ((ints3_ok _).later f3 hW).held
      rw [← hj] at hrow'
      have hxbW := xb.later hW
      have hw0 : base ≤ W.heap.size := Nat.le_trans hb0 (Nat.le_trans hT.size hW.size)
      have hCC := Lib.hid (fun (w5 : World) (g1 cap1 : Nat) (hown : w5.ownsRow base 25 1 (.slice (some ⟨g1, 0, none⟩) (j + 1) cap1) (j + 1) (vs ++ [.slice (some ⟨b23, 0, none⟩) 2 2])) (hg : W.grownBy w5 (Value.slice A3 j k3).ownBlock) (hat : (Value.slice A3 j k3).ownBlock = some g1 ∨ g1 = W.heap.size) =>
        GrownAt.ret (x := [[t2, t2], [t3, t3]]) xb f1 f2 f3 f4 hnd hnb hsub hT hb0 hW hr hj.symm hrow' hown hg rfl hat)
      have hbn := Lib.hid (fun (w5 : World) (hg : W.grownBy w5 (Value.slice A3 j k3).ownBlock) => show Bx w5 b 31 _ from hxbW.same (hg.block b hxbW.lt (fun e => by
        have h1 := f3.held.choose_spec.2 b e.symm
        simp only [List.mem_append, not_or] at hnb
        exact hnb.2.2.1 h1)))
      clear f1 f2 f3 f4 hnd hnb hsub hT hb0 xb hj hxbW hn hdis hbnd hr
      show wpOps _ _ _ [25, 26, 27, 28] _ _
      rw [wpOps_cons]
      refine wpOp_step rfl (fun K hK => ?_)
      refine step_append_lies _ rfl _ _ 24 rfl base 25 r0 (.slice none 0 0) 1 24 Try.underlying24 hr0 hr1 hr2 hr3 rfl (by decide) _ j _ eL hrow' ⟨bo, 0, none⟩ 1 1 [.slice (some ⟨b23, 0, none⟩) 2 2] go rfl (World.news_of_block hbo) (one_sing2 rfl) (by decide) ?c1 ?c2 ?c3 _ rfl ?_
      case c1 => unfold maxLen; omega
      case c2 => omega
      case c3 => exact hw0
      intro g1 cap1 w5 hown hg5 hat hltg
      refine hK _ _ ?_
      have hG5 := hCC.out w5 g1 cap1 hown hg5 hat
      have hb5 := hbn.out w5 hg5
      have q3 := hb5.cell 4 _ rfl
      have q4 := hb5.frozen 4
      have HG5 := Lib.hid hG5
      clear hown hg5 hat hK hb5 hG5
      rw [wpOps_cons]
      refine wpOp_step rfl (fun K2 hK => ?_)
      go_simp
      refine hK _ _ ?_
      clear hK
      rw [wpOps_cons]
      refine wpOp_step rfl (fun K3 hK => ?_)
      go_simp
      refine hK _ _ ?_
      clear hK
      rw [wpOps_cons]
      refine wpOp_step rfl (fun K4 hK => ?_)
      go_simp
      refine hK _ _ ?_
      clear hK
      unfold wpOps
      have hG5 := HG5.out
      obtain ⟨X1, hX1⟩ : ∃ X1, X1 = w5.setCell ⟨b, 4, none⟩ (.slice (some ⟨g1, 0, none⟩) (j + 1) cap1) := ⟨_, rfl⟩
      rw [← hX1] at hG5 ⊢
      have HG1 := Lib.hid hG5
      clear hG5 HG5 hX1 q3 q4 HX hCC hbn
      generalize u 0 = s0
      generalize u 1 = s1
      generalize u 2 = s2
      generalize u 3 = s3
      generalize u 4 = s4
      generalize u 5 = s5
      generalize u 6 = s6
      generalize u 7 = s7
      generalize u 8 = s8
      generalize u 9 = s9
      generalize u 10 = s10
      generalize u 11 = s11
      generalize u 12 = s12
      generalize u 13 = s13
      generalize u 14 = s14
      generalize u 15 = s15
      generalize u 16 = s16
      generalize u 17 = s17
      generalize u 18 = s18
      generalize u 19 = s19
      generalize u 20 = s20
      generalize u 21 = s21
      generalize u 22 = s22
      generalize u 23 = s23
      generalize u 24 = s24
      obtain ⟨c2, hc2⟩ : ∃ c2 : Ck, c2 = { c1 with ret := c1.ret ++ [[[t2, t2], [t3, t3]]] } := ⟨_, rfl⟩
      have hG5 := HG1.out
      rw [← hc2] at hG5
      have Hst2 := Lib.hid (show c2.stack = 1 by rw [hc2]; exact Hst.out)
      have Hlen2 := Lib.hid (show c2.inner.length ≤ 100 by rw [hc2, HC.out]; exact HL.out.2.2.2)
      have HC2 := Lib.hid (show c2 = _ by rw [hc2, HC.out])
      have HTX2 := Lib.hid (show IntsE baseT X1 (.slice (some ⟨gt, 0, none⟩) 6 kt) [t0, t1, t2, t3, t4, t5] bsT from (ints_ok _).kept HTo.out fun k hk => hG5.turned.block k (HTl.out k hk) (HTd.out k hk))
      have HG2 := Lib.hid hG5
      clear hG5 hc2 HG1 HG Hst Hlen HC HTX hr0 hr1 hr2 hr3 r0
      obtain ⟨X, rfl⟩ : ∃ X, X = X1 := ⟨_, rfl⟩
      obtain ⟨c1, rfl⟩ : ∃ c, c = c2 := ⟨_, rfl⟩
      have Hst := Hst2
      have Hlen := Hlen2
      have HC := HC2
      have HTX := HTX2
      have HG := HG2
      clear Hst2 Hlen2 HC2 HTX2 HG2
      obtain ⟨⟨bs0, hbx, hsub⟩, hT, hb0⟩ := HG.out
      obtain ⟨va, vc, vr, vi, d1, d2, d3, d4, xb, f1, f2, f3, f4, rfl, hnd, hnb⟩ := hbx.ex
      obtain ⟨A1, k1, rfl⟩ := RowE.slice f1
      obtain ⟨A2, k2, rfl⟩ := ManyE.slice f2
      obtain ⟨A3, k3, rfl⟩ := ManyE.slice f3
      obtain ⟨A4, k4, rfl⟩ := ManyE.slice f4
      obtain ⟨j, hj⟩ : ∃ j, j = c1.inner.length := ⟨_, rfl⟩
      have hj100 : j ≤ 100 := by have := Hlen.out; omega
      rw [← hj] at xb f4
      have HX := Lib.hid (And.intro f1 (And.intro f2 (And.intro f3 (And.intro f4 (And.intro hnd (And.intro hnb (And.intro hsub (And.intro hT (And.intro hb0 (And.intro xb hj))))))))))
      clear hbx f1 f2 f3 f4 hnd hnb hsub hT hb0 xb hj
      obtain ⟨r0, hr0, hr1, hr2, hr3⟩ := info_parts toInfo_ints
      go_upto_region 3 with fail
      refine wp_region_free_seq1 (by kernel_rfl) [
          .val [] (fun _ => .pointer (some ⟨b, 0, none⟩)),
          .val [] (fun _ => .pointer (some ⟨b, 0, none⟩)),
          .val [] (fun _ => .pointer (some ⟨b, 0, none⟩)),
          .val [] (fun _ => .pointer (some ⟨b, 5, none⟩)),
          .val [] (fun _ => .slice A4 j k4),
          .val [] (fun _ => .slice (some ⟨gt, 0, none⟩) 6 kt),
          .val [] (fun _ => .pointer (some ⟨gt, 4, none⟩)),
          .val [] (fun _ => .int .i64 t4),
          .val [] (fun _ => .slice (some ⟨gt, 0, none⟩) 6 kt),
          .val [] (fun _ => .pointer (some ⟨gt, 5, none⟩)),
          .val [] (fun _ => .int .i64 t5),
          .own (LitE X.heap.size 2 #[.int .i64 t4, .int .i64 t5] 2) (),
          .dep 11 (fun r => LitE X.heap.size 38 #[r] 1) ()] 13 0 (.pointer (some ⟨b, 0, none⟩)) rfl ?hsel ?hfree ?hready (fun c a w h => h) ?hy rfl rfl ?hp ?hfw ?deps ?oks ?hforced ?hf ?steps ?tail
      case hsel => kernel_rfl
      case hfree => kernel_rfl
      case hready => kernel_rfl
      case hp => kernel_rfl
      case hfw => kernel_rfl
      case deps => kernel_rfl
      case hforced => kernel_rfl
      case hf => kernel_rfl
      case hy => exact Or.inl ⟨by first | rfl | go_simp, fun w => by first | rfl | go_simp⟩
      case oks =>
        intro F hF
        simp only [List.mem_cons, List.not_mem_nil, or_false] at hF
        rcases hF with rfl | rfl | rfl | rfl | rfl | rfl | rfl | rfl | rfl | rfl | rfl | rfl | rfl
        all_goals first | trivial | exact ⟨_, lit_ok _ _ _ _⟩ | exact ⟨_, ints_ok _⟩ | exact fun v => ⟨_, lit_ok _ _ _ _⟩
      case steps =>
        refine Steps.cons ?_ ?_
        · intro _
          refine FreeStep.val [] _ rfl rfl fun u β W hW hn fr hfr K hK => ?_
          simp only [frameL, putL, Act.put, List.setIfInBounds_toArray, List.set_cons_zero, List.set_cons_succ, Nat.zero_add, Nat.reduceAdd] at hfr
          subst hfr
          have HK := Lib.hid hK
          clear hK hn
          go_simp
          exact HK.out
        refine Steps.cons ?_ ?_
        · intro _
          refine FreeStep.val [] _ rfl rfl fun u β W hW hn fr hfr K hK => ?_
          simp only [frameL, putL, Act.put, List.setIfInBounds_toArray, List.set_cons_zero, List.set_cons_succ, Nat.zero_add, Nat.reduceAdd] at hfr
          subst hfr
          have HK := Lib.hid hK
          clear hK hn
          go_simp
          exact HK.out
        refine Steps.cons ?_ ?_
        · intro _
          refine FreeStep.val [] _ rfl rfl fun u β W hW hn fr hfr K hK => ?_
          simp only [frameL, putL, Act.put, List.setIfInBounds_toArray, List.set_cons_zero, List.set_cons_succ, Nat.zero_add, Nat.reduceAdd] at hfr
          subst hfr
          have e1 : u 1 = .pointer (some ⟨b, 0, none⟩) := Have.get (k := 1) hn rfl
          simp only [e1] at hK
          have HK := Lib.hid hK
          clear hK hn
          go_simp
          exact HK.out
        refine Steps.cons ?_ ?_
        · intro _
          refine FreeStep.val [] _ rfl rfl fun u β W hW hn fr hfr K hK => ?_
          simp only [frameL, putL, Act.put, List.setIfInBounds_toArray, List.set_cons_zero, List.set_cons_succ, Nat.zero_add, Nat.reduceAdd] at hfr
          subst hfr
          have e2 : u 2 = .pointer (some ⟨b, 0, none⟩) := Have.get (k := 2) hn rfl
          simp only [e2] at hK
          have HK := Lib.hid hK
          clear hK hn
          go_simp
          exact HK.out
        refine Steps.cons ?_ ?_
        · intro _
          refine FreeStep.val [] _ rfl rfl fun u β W hW hn fr hfr K hK => ?_
          simp only [frameL, putL, Act.put, List.setIfInBounds_toArray, List.set_cons_zero, List.set_cons_succ, Nat.zero_add, Nat.reduceAdd] at hfr
          subst hfr
          have e3 : u 3 = .pointer (some ⟨b, 5, none⟩) := Have.get (k := 3) hn rfl
          simp only [e3] at hK
          have c0 : W.cell? ⟨b, 5, none⟩ = some (.slice A4 j k4) := (HX.out.2.2.2.2.2.2.2.2.2.1.later hW).cell 5 _ rfl
          have HK := Lib.hid hK
          clear hK hn
          go_simp
          exact HK.out
        refine Steps.cons ?_ ?_
        · intro _
          refine FreeStep.val [] _ rfl rfl fun u β W hW hn fr hfr K hK => ?_
          simp only [frameL, putL, Act.put, List.setIfInBounds_toArray, List.set_cons_zero, List.set_cons_succ, Nat.zero_add, Nat.reduceAdd] at hfr
          subst hfr
          have HK := Lib.hid hK
          clear hK hn
          go_simp
          exact HK.out
        refine Steps.cons ?_ ?_
        · intro _
          refine FreeStep.val [] _ rfl rfl fun u β W hW hn fr hfr K hK => ?_
          simp only [frameL, putL, Act.put, List.setIfInBounds_toArray, List.set_cons_zero, List.set_cons_succ, Nat.zero_add, Nat.reduceAdd] at hfr
          subst hfr
          have e5 : u 5 = .slice (some ⟨gt, 0, none⟩) 6 kt := Have.get (k := 5) hn rfl
          simp only [e5] at hK
          have HK := Lib.hid hK
          clear hK hn
          go_simp
          exact HK.out
        refine Steps.cons ?_ ?_
        · intro _
          refine FreeStep.val [] _ rfl rfl fun u β W hW hn fr hfr K hK => ?_
          simp only [frameL, putL, Act.put, List.setIfInBounds_toArray, List.set_cons_zero, List.set_cons_succ, Nat.zero_add, Nat.reduceAdd] at hfr
          subst hfr
          have e6 : u 6 = .pointer (some ⟨gt, 4, none⟩) := Have.get (k := 6) hn rfl
          simp only [e6] at hK
          have c0 : W.cell? ⟨gt, 4, none⟩ = some (.int .i64 t4) := cell_later' (IntsE.cell' HTX.out (j := 4) rfl) hW
          have HK := Lib.hid hK
          clear hK hn
          go_simp
          exact HK.out
        refine Steps.cons ?_ ?_
        · intro _
          refine FreeStep.val [] _ rfl rfl fun u β W hW hn fr hfr K hK => ?_
          simp only [frameL, putL, Act.put, List.setIfInBounds_toArray, List.set_cons_zero, List.set_cons_succ, Nat.zero_add, Nat.reduceAdd] at hfr
          subst hfr
          have HK := Lib.hid hK
          clear hK hn
          go_simp
          exact HK.out
        refine Steps.cons ?_ ?_
        · intro _
          refine FreeStep.val [] _ rfl rfl fun u β W hW hn fr hfr K hK => ?_
          simp only [frameL, putL, Act.put, List.setIfInBounds_toArray, List.set_cons_zero, List.set_cons_succ, Nat.zero_add, Nat.reduceAdd] at hfr
          subst hfr
          have e8 : u 8 = .slice (some ⟨gt, 0, none⟩) 6 kt := Have.get (k := 8) hn rfl
          simp only [e8] at hK
          have HK := Lib.hid hK
          clear hK hn
          go_simp
          exact HK.out
        refine Steps.cons ?_ ?_
        · intro _
          refine FreeStep.val [] _ rfl rfl fun u β W hW hn fr hfr K hK => ?_
          simp only [frameL, putL, Act.put, List.setIfInBounds_toArray, List.set_cons_zero, List.set_cons_succ, Nat.zero_add, Nat.reduceAdd] at hfr
          subst hfr
          have e9 : u 9 = .pointer (some ⟨gt, 5, none⟩) := Have.get (k := 9) hn rfl
          simp only [e9] at hK
          have c0 : W.cell? ⟨gt, 5, none⟩ = some (.int .i64 t5) := cell_later' (IntsE.cell' HTX.out (j := 5) rfl) hW
          have HK := Lib.hid hK
          clear hK hn
          go_simp
          exact HK.out
        refine Steps.cons ?_ ?_
        · intro _
          refine FreeStep.own (base := X.heap.size) rfl (lit_ok _ _ _ _) fun u β W hW hn fr hfr K hK => ?_
          simp only [frameL, putL, Act.put, List.setIfInBounds_toArray, List.set_cons_zero, List.set_cons_succ, Nat.zero_add, Nat.reduceAdd] at hfr
          subst hfr
          have e7 : u 7 = .int .i64 t4 := Have.get (k := 7) hn rfl
          have e10 : u 10 = .int .i64 t5 := Have.get (k := 10) hn rfl
          simp only [e7, e10] at hK
          have hsz := hW.size
          have HK := Lib.hid hK
          clear hK hn
          go_simp
          exact HK.out _ [W.heap.size] _ ((Below.refl _ _).alloc (Nat.le_refl _) _) (LitE.new _ _ _ W hsz) (fun b hb => by rw [List.mem_singleton.1 hb]; exact Nat.le_refl _)
        refine Steps.cons ?_ ?_
        · intro _
          refine FreeStep.dep (base := X.heap.size) rfl (by decide) (fun v => lit_ok _ _ _ _) fun u β W hW hn fr hfr K hK => ?_
          simp only [frameL, putL, Act.put, List.setIfInBounds_toArray, List.set_cons_zero, List.set_cons_succ, Nat.zero_add, Nat.reduceAdd] at hfr
          subst hfr
          have f11 : LitE X.heap.size 2 #[.int .i64 t4, .int .i64 t5] 2 W (u 11) () (β 11) := Have.get (k := 11) hn rfl
          obtain ⟨b11, g11, _, _, _⟩ := f11
          have H11 := Lib.hid g11
          have hsz := hW.size
          have HK := Lib.hid hK
          clear hK hn
          rw [g11] at HK ⊢
          go_simp
          exact HK.out _ [W.heap.size] _ ((Below.refl _ _).alloc (Nat.le_refl _) _) (LitE.new _ _ _ W hsz) (fun b hb => by rw [List.mem_singleton.1 hb]; exact Nat.le_refl _)
        exact ⟨fun h => absurd h (by decide), fun h => absurd h (by decide), fun h => absurd h (by decide), fun h => absurd h (by decide), trivial⟩
      case tail =>
        intro u β W hW hn hdis hbnd fr hfr
        simp only [frameL, putL, Act.put, List.setIfInBounds_toArray, List.set_cons_zero, List.set_cons_succ, Nat.zero_add, Nat.reduceAdd] at hfr
        subst hfr
        have e0 : u 0 = .pointer (some ⟨b, 0, none⟩) := Have.get (k := 0) hn rfl
        have eL : u 4 = .slice A4 j k4 := Have.get (k := 4) hn rfl
        have fO : LitE X.heap.size 38 #[u 11] 1 W (u 12) () (β 12) := Have.get (k := 12) hn rfl
        have f11 : LitE X.heap.size 2 #[.int .i64 t4, .int .i64 t5] 2 W (u 11) () (β 11) := Have.get (k := 11) hn rfl
        obtain ⟨b11, g11, hb11, hβ11, hl11⟩ := f11
        have hr : IntsE X.heap.size W (.slice (some ⟨b11, 0, none⟩) 2 2) [t4, t5] [b11] := rowE_lit 2 hb11 hl11 rfl rfl rfl (by unfold maxLen; omega)
        obtain ⟨bo, go, hbo, _, hlo⟩ := fO
        rw [g11] at hbo
        obtain ⟨f1, f2, f3, f4, hnd, hnb, hsub, hT, hb0, xb, hj⟩ := HX.out
        obtain ⟨vs, hrow', _⟩ := ((ints2_ok _).later f4 hW).held
        rw [← hj] at hrow'
        have hxbW := xb.later hW
        have hw0 : base ≤ W.heap.size := Nat.le_trans hb0 (Nat.le_trans hT.size hW.size)
        have hCC := Lib.hid (fun (w5 : World) (g1 cap1 : Nat) (hown : w5.ownsRow base 38 1 (.slice (some ⟨g1, 0, none⟩) (j + 1) cap1) (j + 1) (vs ++ [.slice (some ⟨b11, 0, none⟩) 2 2])) (hg : W.grownBy w5 (Value.slice A4 j k4).ownBlock) (hat : (Value.slice A4 j k4).ownBlock = some g1 ∨ g1 = W.heap.size) =>
          GrownAt.inner (x := [t4, t5]) xb f1 f2 f3 f4 hnd hnb hsub hT hb0 hW hr hj.symm hrow' hown hg rfl hat)
        have hbn := Lib.hid (fun (w5 : World) (hg : W.grownBy w5 (Value.slice A4 j k4).ownBlock) => show Bx w5 b 31 _ from hxbW.same (hg.block b hxbW.lt (fun e => by
          have h1 := f4.held.choose_spec.2 b e.symm
          simp only [List.mem_append, not_or] at hnb
          exact hnb.2.2.2 h1)))
        clear f1 f2 f3 f4 hnd hnb hsub hT hb0 xb hj hxbW hn hdis hbnd hr
        show wpOps _ _ _ [13, 14, 15, 16] _ _
        rw [wpOps_cons]
        refine wpOp_step rfl (fun K hK => ?_)
        refine step_append_lies _ rfl _ _ 25 rfl base 38 r0 (.slice none 0 0) 1 24 Try.underlying25 hr0 hr1 hr2 hr3 rfl (by decide) _ j _ eL hrow' ⟨bo, 0, none⟩ 1 1 [.slice (some ⟨b11, 0, none⟩) 2 2] go rfl (World.news_of_block hbo) (one_sing2 rfl) (by decide) ?c1 ?c2 ?c3 _ rfl ?_
        case c1 => unfold maxLen; omega
        case c2 => omega
        case c3 => exact hw0
        intro g1 cap1 w5 hown hg5 hat hltg
        refine hK _ _ ?_
        have hG5 := hCC.out w5 g1 cap1 hown hg5 hat
        have hb5 := hbn.out w5 hg5
        have q3 := hb5.cell 5 _ rfl
        have q4 := hb5.frozen 5
        have HG5 := Lib.hid hG5
        clear hown hg5 hat hK hb5 hG5
        rw [wpOps_cons]
        refine wpOp_step rfl (fun K2 hK => ?_)
        go_simp
        refine hK _ _ ?_
        clear hK
        rw [wpOps_cons]
        refine wpOp_step rfl (fun K3 hK => ?_)
        go_simp
        refine hK _ _ ?_
        clear hK
        rw [wpOps_cons]
        refine wpOp_step rfl (fun K4 hK => ?_)
        go_simp
        refine hK _ _ ?_
        clear hK
        unfold wpOps
        have hG5 := HG5.out
        obtain ⟨X1, hX1⟩ : ∃ X1, X1 = w5.setCell ⟨b, 5, none⟩ (.slice (some ⟨g1, 0, none⟩) (j + 1) cap1) := ⟨_, rfl⟩
        rw [← hX1] at hG5 ⊢
        have HG1 := Lib.hid hG5
        clear hG5 HG5 hX1 q3 q4 HX hCC hbn
        generalize u 0 = s0
        generalize u 1 = s1
        generalize u 2 = s2
        generalize u 3 = s3
        generalize u 4 = s4
        generalize u 5 = s5
        generalize u 6 = s6
        generalize u 7 = s7
        generalize u 8 = s8
        generalize u 9 = s9
        generalize u 10 = s10
        generalize u 11 = s11
        generalize u 12 = s12
        have hG5 := HG1.out
        have hce : ({ c1 with inner := c1.inner ++ [[t4, t5]] } : Ck) = plusCk c a t0 t1 t2 t3 t4 t5 := by rw [HC.out]; rfl
        rw [hce] at hG5
        have HG6 := Lib.hid hG5
        clear hG5 HG1 hce
        go_wp2
        refine ⟨rfl, .tuple #[], ?_, rfl, HG6.out⟩
        simp [results, Try.results62, go_sem]
end Go.Proofs.Ytdehehdcjfaefab
