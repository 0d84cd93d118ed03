/- behindBeginnings at stacks; StacksOf of the program. -/
import Derived.Test.YthdjoligopmepabStksI
namespace Go.Proofs.Ythdjoligopmepab
open Go.RowKit
set_option linter.unusedVariables false

section
variable {base : Nat} {va vc vr vi : Value} {c : Ck} {bsC : List Nat} {w0 : World} {B : Nat}
set_option maxHeartbeats 6400000 in
set_option maxRecDepth 100000 in
theorem impl_behindS {b g n cc : Nat} {sy : List Int} {p : Int × List Int} {bs0 : List Nat} (W : World) (hck : CkE base w0 (.agg #[.int .i64 c.stack, .int .i64 c.start, va, vc, vr, vi]) c bsC) (hc : OkC c)
    (hp : StM c p) (hl : p.2.length ≤ 100) (hn : n ≤ 60) (hsy : w0.ownsRow b 91 1 (.slice (some ⟨g, 0, none⟩) n cc) n (symsV sy)) (hok : ∀ x ∈ sy, 0 ≤ x ∧ x ≤ 5) (hr : RunB w0 B c va vc vr vi p bs0 W) :
    Calls Try.prog 60 #[.slice (some ⟨g, 0, none⟩) n cc, .func (.func 61) #[.pointer (some ⟨B, 0, none⟩)] #[], .func (.func 62) #[.pointer (some ⟨B, 0, none⟩)] #[]] W fun e w' =>
      ∃ v bs, e = .returned v ∧ Ints2E W.heap.size w' v (stkM c p sy n) bs ∧ Below w0.heap.size w0 w' := by
  obtain ⟨i0, hi, hz0, hz1, hz2⟩ := info_parts toInfo_ints
  have hsl : sy.length = n := by have := hsy.1; simpa [symsV] using this
  have hpr := impl_presentStack W hr (by omega)
  have Hr := Lib.hid hr
  have hz0w : w0.heap.size ≤ W.heap.size := by obtain ⟨_, _, _, h, _⟩ := hr; exact h.size
  have Hpr := Lib.hid hpr
  have Hck := Lib.hid hck
  have Hc := Lib.hid hc
  have Hp := Lib.hid hp
  have Hsy := Lib.hid hsy
  have Hok := Lib.hid hok
  have Hsl := Lib.hid hsl
  have Hg0 := Lib.hid (show goM c p (sy.take 0) = p from by simp [goM])
  clear hck hc hp hsy hok hsl hpr hr
  go_enter Try.func60, Try.ntmps60
  go_wp2_with fail
  refine Hpr.out.mono ?_
  rintro e w1 ⟨v1, cs1, rfl, hE1, hb1⟩
  obtain ⟨A1, k1, rfl⟩ := RowE.slice hE1
  have hR1 := Hr.out.later hb1
  have hst := many_one hE1 hb1.size
  have hR2 := hR1.later ((Below.refl _ w1).alloc (Nat.le_refl _) (.cells #[.slice A1 p.2.length k1] 28))
  have hd0 : ∀ b ∈ w1.heap.size :: cs1, b ∉ bs0 := fun b hb h => by
    obtain ⟨_, _, hE, _, _⟩ := Hr.out
    have h1 := ((ints_ok _).lt hE b h).2
    have h2 := hb1.size
    rcases List.mem_cons.1 hb with e | e
    · omega
    · have := ((ints_ok _).lt hE1 b e).1
      omega
  have Hst := Lib.hid (And.intro hst (And.intro hR2 hd0))
  have hzs := hb1.size
  clear hE1 hb1 hR1 hst hR2 hd0
  go_wp2
  go_loopw [7, 15] (fun ls i wr => ∃ j : Nat, j ≤ n ∧ i = .int .i64 j ∧ (∃ bs bsr, Ints2E W.heap.size wr ls (stkM c p sy j) bs ∧ RunB w0 B c va vc vr vi (goM c p (sy.take j)) bsr wr ∧ (∀ b ∈ bs, b ∉ bsr)) ∧ W.heap.size ≤ wr.heap.size) (fun _ i _ => n - (intOf i).toNat)
  case atStart => exact ⟨0, Nat.zero_le _, rfl, ⟨_, bs0, by rw [stkM_zero]; exact Hst.out.1, by rw [Hg0.out]; exact Hst.out.2.1, Hst.out.2.2⟩, by simp; omega⟩
  case round =>
    obtain ⟨j, hj, rfl, ⟨bs, bsr, hS, hR, hD⟩, hz⟩ := hrel
    obtain ⟨A', ca, rfl⟩ := ManyE.slice hS
    have hBr : Below w0.heap.size w0 wr := by obtain ⟨_, _, _, h, _⟩ := hR; exact h
    by_cases hlt : j < n
    · rw [stkM_len] at hS ⊢
      obtain ⟨x, hx⟩ : ∃ x, sy[j]? = some x := ⟨_, List.getElem?_eq_getElem (by rw [Hsl.out]; exact hlt)⟩
      have hgl := (Hsy.out.lt g rfl).2
      have hcell := (hBr.cell (p := ⟨g, j, none⟩) hgl).trans (sym_cell Hsy.out hx).2
      have hxo := Hok.out x (List.mem_of_getElem? hx)
      have hst := Hp.out.go Hc.out (sy.take j) (fun k hk => Hok.out k (List.mem_of_mem_take hk))
      have hlen := go_len c (sy.take j) p
      have hlen2 : (goM c p (sy.take j)).2.length ≤ 199 := by
        have := List.length_take_le j sy
        omega
      have hlen3 : (goM c p (sy.take (j + 1))).2.length ≤ 200 := by
        have h1 := go_len c (sy.take (j + 1)) p
        have := List.length_take_le (j + 1) sy
        omega
      have hq := impl_readF wr Hck.out Hc.out hst (by omega) hxo hR
      rw [← goM_snoc, show sy.take j ++ [x] = sy.take (j + 1) from by rw [List.take_add_one, hx]; rfl] at hq
      have Hq := Lib.hid hq
      have hBx : ∀ b ∈ bs, b ≠ B := by obtain ⟨_, hb, _, _, _⟩ := hR; exact ManyE.off_bx hS hb (by decide) (by decide)
      have Hi := Lib.hid (And.intro hS (And.intro hD hBx))
      have Hl3 := Lib.hid hlen3
      clear hx hst hlen hlen2 hlen3 hq hR hS hD hBx
      go_wp2_with fail
      refine Hq.out.mono ?_
      rintro e w1 ⟨rfl, bsr1, hR1, hT1, hN1⟩
      have hS1 : Ints2E W.heap.size w1 (.slice A' (j + 1) ca) (stkM c p sy j) bs := (ints2_ok _).off Hi.out.1 hT1 fun b hb h => by
        rcases List.mem_cons.1 h with e | e
        · exact Hi.out.2.2 b hb e
        · exact Hi.out.2.1 b hb e
      have hD1 : ∀ b ∈ bs, b ∉ bsr1 := fun b hb h => by
        rcases hN1 b h with e | e
        · exact Hi.out.2.1 b hb e
        · have := ((ints2_ok _).lt Hi.out.1 b hb).2
          omega
      have hpr1 := Lib.hid (impl_presentStack w1 hR1 Hl3.out)
      have hz1w := hT1.size
      have Hb := Lib.hid (And.intro hS1 (And.intro hR1 hD1))
      clear hS1 hR1 hD1 hT1 hN1 hBr
      go_wp2_with fail
      refine hpr1.out.mono ?_
      rintro e w2 ⟨v2, cs2, rfl, hE2, hb2⟩
      obtain ⟨A2, k2, rfl⟩ := RowE.slice hE2
      obtain ⟨n2, hn2⟩ : ∃ n2, n2 = (goM c p (sy.take (j + 1))).2.length := ⟨_, rfl⟩
      rw [← hn2] at hE2 ⊢
      clear hn2
      have hS2 := (ints2_ok _).later Hb.out.1 hb2
      have hR2 := Hb.out.2.1.later hb2
      obtain ⟨vs, hrow'⟩ := ManyE.row hS2
      have hrow : w2.ownsRow W.heap.size 28 1 (.slice A' (j + 1) ca) (j + 1) vs := by rwa [stkM_len] at hrow'
      have hE2' : IntsE W.heap.size w2 (.slice A2 n2 k2) (goM c p (sy.take (j + 1))).2 cs2 := ⟨row_base hE2.1 (by omega), hE2.2⟩
      have hd2 : ∀ b ∈ bs, b ∉ cs2 := fun b hb h => by
        have h1 := ((ints2_ok _).lt Hb.out.1 b hb).2
        have h2 := ((ints_ok _).lt hE2 b h).1
        omega
      have hd3 : ∀ b ∈ cs2, b ∉ bsr1 := fun b hb h => by
        obtain ⟨_, _, hE, _, _⟩ := Hb.out.2.1
        have h1 := ((ints_ok _).lt hE b h).2
        have h2 := ((ints_ok _).lt hE2 b hb).1
        omega
      have hone : ∀ u ∈ [Value.slice A2 n2 k2], u.oneCell' = true := by intro u hu; rw [List.mem_singleton.1 hu]; exact one_of_row hE2.1
      have hz2w := hb2.size
      have Hc2 := Lib.hid (And.intro hS2 (And.intro hR2 (And.intro hrow (And.intro hE2' (And.intro hd2 (And.intro hd3 (And.intro hone Hb.out.2.2)))))))
      clear hS2 hR2 hrow hrow' hE2' hE2 hd2 hd3 hone hb2 hpr1
      go_wp2_with (at_builtin; refine wpList_append_lies _ rfl _ _ 25 rfl W.heap.size 28 i0 (.slice none 0 0) 1 24 Try.underlying25 hi hz0 hz1 hz2 rfl (by decide) _ (j + 1) _ rfl (Hc2.out.2.2.1.alloc _) ⟨w2.heap.size, 0, none⟩ 1 1 [.slice A2 n2 k2] rfl rfl (World.news_of_block (Bx.new w2 _ _)) Hc2.out.2.2.2.2.2.2.1 (by decide) ?c1 ?c2 ?c3 _ rfl ?_)
      case c1 => unfold maxLen; omega
      case c2 => omega
      case c3 => simp; omega
      intro g1 cap w5 hown hg hat hltg
      obtain ⟨hS2, hR2, hrow, hE2', hd2, hd3, _, hD1⟩ := Hc2.out
      obtain ⟨bs5, hS5, hN5⟩ := many_more hS2 (stkM_len _ _ _ _) hrow hE2' hd2 hown hg (by rcases hat with h | h; exact .inl h; exact .inr (by rw [h]))
      rw [← stkM_succ] at hS5
      have hbse : ∀ k, (Value.slice A' (j + 1) ca).ownBlock = some k → k ∈ bs := fun k hk => by
        obtain ⟨_, bss, _, _, _, e, _⟩ := hS2
        rw [e, hk]
        simp
      have hg1 : g1 ∉ bsr1 := fun h => by
        rcases hat with e | e
        · exact hD1 g1 (hbse g1 e) h
        · obtain ⟨_, _, hE, _, _⟩ := hR2
          have := ((ints_ok _).lt hE g1 h).2
          rw [e] at this
          (try rw [World.size_alloc] at this)
          omega
      have hR5 : RunB w0 B c va vc vr vi (goM c p (sy.take (j + 1))) bsr1 w5 := by
        obtain ⟨vs1, hb1, hE1, hB1, hBB1⟩ := id hR2
        refine hR2.kept ?_ ?_ ?_
        · refine (hg.block B (by rw [World.size_alloc]; have := hb1.lt; omega) fun e => ?_).trans (Below.heap_alloc w2 _ B hb1.lt)
          exact ManyE.off_bx hS2 hb1 (by decide) (by decide) B (hbse B e.symm) rfl
        · intro b hb
          have hbl := ((ints_ok _).lt hE1 b hb).2
          refine (hg.block b (by rw [World.size_alloc]; omega) fun e => ?_).trans (Below.heap_alloc w2 _ b hbl)
          exact hD1 b (hbse b e.symm) hb
        · refine (hB1.alloc hB1.size _).grown hg (by rw [World.size_alloc]; have := hB1.size; omega) fun k hk => ?_
          have := ((ints2_ok _).lt hS2 k (hbse k hk)).1
          omega
      have hD5 : ∀ b ∈ bs5, b ∉ bsr1 := fun b hb => by
        rcases hN5 b hb with h | h | h
        · exact hD1 b h
        · exact hd3 b h
        · rw [h]; exact hg1
      have hz5 := hg.size
      rw [World.size_alloc] at hz5
      clear hown hg hat hS2 hR2 hrow hE2' hd2 hd3 hD1 hbse hg1 hN5
      go_wp2
      go_roundw
      case rel => exact ⟨j + 1, by omega, by go_num, ⟨bs5, bsr1, hS5, hR5, hD5⟩, by omega⟩
      case measure => simp [intOf]; omega
    · have e : j = n := by omega
      subst e
      go_wp2
      go_ret
      exact ⟨_, bs, rfl, hS, hBr⟩
end

section
variable {base : Nat} {va vc vr vi : Value} {c : Ck} {bsC : List Nat}
set_option maxHeartbeats 1600000 in
set_option maxRecDepth 100000 in
theorem impl_Stks_no (s : ByteArray) (w : World) (hs : s.size ≤ 1048576) (hbd : BdC c) (hck : CkE base w (.agg #[.int .i64 c.stack, .int .i64 c.start, va, vc, vr, vi]) c bsC) (h : ¬ GivenM c s) :
    Calls Try.prog 20 #[.agg #[.int .i64 c.stack, .int .i64 c.start, va, vc, vr, vi], .string s] w (PostV Ints2E [] 1 w) := by
  have hB0 := (Below.refl w.heap.size w).alloc (Nat.le_refl _) (.cells #[.int .i64 c.stack, .int .i64 c.start, va, vc, vr, vi] 34)
  have H := Lib.hid (impl_for_no s _ hs hbd ((ck_ok _).later hck hB0) h)
  have HB0 := Lib.hid hB0
  clear hck hbd h hB0
  go_enter Try.func20, Try.ntmps20
  go_wp2_with fail
  refine H.out.mono ?_
  rintro e w1 ⟨rfl, hb1⟩
  have hA := HB0.out.trans (hb1.mono HB0.out.size)
  go_wp2
  go_ret2
  exact ⟨_, [], rfl, ManyE.nil _ _ _ _, hA.alloc hA.size _⟩

set_option maxHeartbeats 3200000 in
set_option maxRecDepth 100000 in
theorem impl_Stks_yes (s : ByteArray) (w : World) (hbd : BdC c) (hck : CkE base w (.agg #[.int .i64 c.stack, .int .i64 c.start, va, vc, vr, vi]) c bsC) (h : GivenM c s) :
    Calls Try.prog 20 #[.agg #[.int .i64 c.stack, .int .i64 c.start, va, vc, vr, vi], .string s] w (PostV Ints2E (stkM c (c.start, []) (symL s.data.toList) s.size) 0 w) := by
  have hc := okC_of h.2
  have hw := h.1
  have h60 := h.1.1
  have hmf : ∀ (fn : Fn) (first cap : Array Value) (w : World), (Instr.makeFunc fn first cap).run Try.prog w = .ok (.func fn first cap) w := fun _ _ _ _ => rfl
  have hB0 := (Below.refl w.heap.size w).alloc (Nat.le_refl _) (.cells #[.int .i64 c.stack, .int .i64 c.start, va, vc, vr, vi] 34)
  have hbx := Box6.new w (.int .i64 c.stack) (.int .i64 c.start) va vc vr vi 34
  have hfor := impl_for_yes s _ hbd ((ck_ok _).later hck hB0) h
  have hstart := fun (W : World) => impl_startRun (c := c) (va := va) (vc := vc) (vr := vr) (vi := vi) W
  have hall := fun (W W2 : World) (B g : Nat) (hW : Below w.heap.size w W) (b : Nat) (hsy : W.ownsRow b 91 1 (.slice (some ⟨g, 0, none⟩) s.size s.size) s.size (symsV (symL s.data.toList))) (bs0 : List Nat) (hr : RunB W B c va vc vr vi (c.start, []) bs0 W2) =>
    impl_behindS (p := (c.start, [])) W2 ((ck_ok _).later hck hW) hc (StM.start hc) (by simp) h60 hsy (symL_ok hw.2) hr
  obtain ⟨X, hX⟩ : ∃ X, X = stkM c (c.start, []) (symL s.data.toList) s.size := ⟨_, rfl⟩
  rw [← hX] at hall
  rw [← hX]
  have Hfor := Lib.hid hfor
  have Hstart := Lib.hid hstart
  have Hall := Lib.hid hall
  have HB0 := Lib.hid hB0
  obtain ⟨t0, ht0⟩ : ∃ t, t = c.stack := ⟨_, rfl⟩
  obtain ⟨t1, ht1⟩ : ∃ t, t = c.start := ⟨_, rfl⟩
  rw [← ht0, ← ht1] at Hfor HB0 hbx Hstart ⊢
  have Ht := Lib.hid (And.intro ht0 ht1)
  clear hfor hstart hall hB0 hck hbd h hc hw hX ht0 ht1
  obtain ⟨e0, e1, e2, e3, e4, e5, el⟩ := id hbx
  go_enter Try.func20, Try.ntmps20
  go_wp2_with fail
  refine Hfor.out.mono ?_
  rintro e w1 ⟨g, M, rfl, hsy, hps, hb1⟩
  have hA := HB0.out.trans (hb1.mono HB0.out.size)
  have hn1 := (Below.refl w1.heap.size w1).alloc (Nat.le_refl _) (.cells #[.slice (some ⟨g, 0, none⟩) s.size s.size, .slice (some ⟨M, 0, none⟩) s.size s.size] 69)
  have hA2 := hA.alloc hA.size (.cells #[.slice (some ⟨g, 0, none⟩) s.size s.size, .slice (some ⟨M, 0, none⟩) s.size s.size] 69)
  have hbx1 := (hbx.later hb1).later hn1
  have hN := Bx.new w1 69 #[.slice (some ⟨g, 0, none⟩) s.size s.size, .slice (some ⟨M, 0, none⟩) s.size s.size]
  have Hsy := Lib.hid (row_below hsy hn1)
  clear e0 e1 e2 e3 e4 e5 el hps hsy
  obtain ⟨e0, e1, e2, e3, e4, e5, el⟩ := id hbx1
  obtain ⟨W1, hW1⟩ : ∃ W1, W1 = w1.alloc (.cells #[.slice (some ⟨g, 0, none⟩) s.size s.size, .slice (some ⟨M, 0, none⟩) s.size s.size] 69) := ⟨_, rfl⟩
  rw [← hW1] at hbx1 hN Hsy hA2
  have HW1 := Lib.hid hW1
  clear hW1 hn1
  go_wp2_with fail
  rw [← HW1.out]
  refine (Hstart.out _).mono ?_
  rintro e w2 ⟨B, rfl, hR⟩
  obtain ⟨vs0, bs0, hx1, hx2, hx3, hx4⟩ := hR
  have hb2 : Below W1.heap.size W1 w2 := hx3
  have n0 : w2.cell? ⟨w1.heap.size, 0, none⟩ = some (.slice (some ⟨g, 0, none⟩) s.size s.size) := (hN.later hb2).cell 0 _ rfl
  have Hq := Lib.hid (Hall.out W1 w2 B g hA2 _ Hsy.out bs0 (by rw [← Ht.out.2]; exact ⟨vs0, by rw [← Ht.out.1, ← Ht.out.2]; rw [← Ht.out.1, ← Ht.out.2] at hx1; exact hx1, hx2, hx3, hx4⟩))
  have hs2 := hA2.size
  have hs3 := hb2.size
  clear e0 e1 e2 e3 e4 e5 el hx1 hx2 hx3
  go_wp2_with fail
  refine Hq.out.mono ?_
  rintro e w3 ⟨v3, bs3, rfl, hE3, hB3⟩
  have hA3 := hA2.trans (hB3.mono hA2.size)
  have hE3' : Ints2E w.heap.size w3 v3 X bs3 := manyE_base (fun w v x bs h => ⟨row_base h.1 (by omega), h.2⟩) hE3 (by omega)
  have He := Lib.hid hE3'
  clear hE3 hE3' hB3
  go_wp2
  go_ret2
  exact ⟨v3, bs3, rfl, He.out, hA3⟩
end
end Go.Proofs.Ythdjoligopmepab
