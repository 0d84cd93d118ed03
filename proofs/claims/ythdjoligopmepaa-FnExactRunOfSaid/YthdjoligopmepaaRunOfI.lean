/- RunOf of the program. -/
import Derived.Test.YthdjoligopmepaaSummS
namespace Go.Proofs.Ythdjoligopmepaa
open Go.RowKit
set_option linter.unusedVariables false

/-- The states behind the beginnings of a word. -/
def stsM (c : Ck) (p : Int × List Int) (sy : List Int) (j : Nat) : List Int := (List.range (j + 1)).map fun i => (goM c p (sy.take i)).1
theorem stsM_succ (c : Ck) (p : Int × List Int) (sy : List Int) (j : Nat) : stsM c p sy (j + 1) = stsM c p sy j ++ [(goM c p (sy.take (j + 1))).1] := by
  rw [stsM, List.range_succ, List.map_append]; rfl
theorem stsM_len (c : Ck) (p : Int × List Int) (sy : List Int) (j : Nat) : (stsM c p sy j).length = j + 1 := by simp [stsM]
theorem stsM_zero (c : Ck) (p : Int × List Int) (sy : List Int) : stsM c p sy 0 = [p.1] := by simp [stsM, goM, List.range_succ]

section
variable {base : Nat} {va vc vr vi : Value} {c : Ck} {bsC : List Nat} {w0 : World} {B : Nat}
theorem impl_present {st : Int} (W : World) (h : W.cell? ⟨B, 6, none⟩ = some (.int .i64 st)) :
    Calls Try.prog 69 #[.pointer (some ⟨B, 0, none⟩)] W fun e w' => e = .returned (.int .i64 st) ∧ W = w' := by
  go_enter Try.func69, Try.ntmps69
  go_wp2
  go_ret
  exact ⟨rfl, rfl⟩
/-- A run lies as it lay where its box and its stack do. -/
theorem RunB.kept {p : Int × List Int} {bs : List Nat} {W W' : World} (h : RunB w0 B c va vc vr vi p bs W) (h1 : W'.heap[B]? = W.heap[B]?) (h2 : ∀ b ∈ bs, W'.heap[b]? = W.heap[b]?) (h3 : Below w0.heap.size w0 W') : RunB w0 B c va vc vr vi p bs W' := by
  obtain ⟨vs, hb, hE, _, hBB⟩ := h
  exact ⟨vs, hb.same h1, (ints_ok _).kept hE h2, h3, hBB⟩

set_option maxHeartbeats 6400000 in
set_option maxRecDepth 100000 in
theorem impl_behind {b g n cc : Nat} {sy : List Int} {p : Int × List Int} {bs0 : List Nat} (W : World) (hck : CkE base w0 (.agg #[.int .i64 c.stack, .int .i64 c.start, va, vc, vr, vi]) c bsC) (hc : OkC c)
    (hp : StM c p) (hl : p.2.length ≤ 100) (hn : n ≤ 60) (hsy : w0.ownsRow b 122 1 (.slice (some ⟨g, 0, none⟩) n cc) n (symsV sy)) (hok : ∀ x ∈ sy, 0 ≤ x ∧ x ≤ 5) (hr : RunB w0 B c va vc vr vi p bs0 W) :
    Calls Try.prog 67 #[.slice (some ⟨g, 0, none⟩) n cc, .func (.func 68) #[.pointer (some ⟨B, 0, none⟩)] #[], .func (.func 69) #[.pointer (some ⟨B, 0, none⟩)] #[]] W fun e w' =>
      ∃ v bs bsr, e = .returned v ∧ IntsE W.heap.size w' v (stsM c p sy n) bs ∧ RunB w0 B c va vc vr vi (goM c p sy) bsr w' ∧ (∀ b ∈ bs, b ∉ bsr) := by
  obtain ⟨i0, hi, hz0, hz1, hz2⟩ := info_parts toInfo_i64
  have hsl : sy.length = n := by have := hsy.1; simpa [symsV] using this
  have hrs := hr
  obtain ⟨vs0, hb0, hE0, hB0, hBB0⟩ := hr
  have s6 : W.cell? ⟨B, 6, none⟩ = some (.int .i64 p.1) := hb0.cell 6 _ rfl
  have hpr := impl_present W s6
  have hz0w := hB0.size
  have hBl := hb0.lt
  have Hst := Lib.hid (show IntsE W.heap.size (W.alloc (.cells #[.int .i64 p.1] 2)) (.slice (some ⟨W.heap.size, 0, none⟩) 1 1) (stsM c p sy 0) [W.heap.size] from by
    rw [stsM_zero]
    have := World.ownsRow_lit (base := W.heap.size) (e := 2) (size := 1) W #[.int .i64 p.1] 1 (Nat.le_refl _) (by unfold maxLen; omega) rfl
    exact ⟨by simpa using this, rfl⟩)
  have Hr0 := Lib.hid (show RunB w0 B c va vc vr vi p bs0 (W.alloc (.cells #[.int .i64 p.1] 2)) from
    hrs.kept (Below.heap_alloc W _ B hBl) (fun b hb => Below.heap_alloc W _ b ((ints_ok _).lt hE0 b hb).2) (hB0.alloc hz0w _))
  have Hd0 := Lib.hid (show ∀ b ∈ [W.heap.size], b ∉ bs0 from fun b hb h => by
    have h1 := ((ints_ok _).lt hE0 b h).2
    rw [List.mem_singleton.1 hb] at h1
    omega)
  have Hpr := Lib.hid hpr
  have Hck := Lib.hid hck
  have Hc := Lib.hid hc
  have Hp := Lib.hid hp
  have Hsy := Lib.hid hsy
  have Hok := Lib.hid hok
  have Hsl := Lib.hid hsl
  have Hg0 := Lib.hid (show goM c p (sy.take 0) = p from by simp [goM])
  clear hck hc hp hsy hok hsl hrs hb0 hE0 hB0 hpr s6
  go_enter Try.func67, Try.ntmps67
  go_wp2_with fail
  refine Hpr.out.mono ?_
  rintro e w1 ⟨rfl, rfl⟩
  go_wp2
  go_loopw [7, 15] (fun ls i wr => ∃ j : Nat, j ≤ n ∧ i = .int .i64 j ∧ (∃ bs bsr, IntsE W.heap.size wr ls (stsM c p sy j) bs ∧ RunB w0 B c va vc vr vi (goM c p (sy.take j)) bsr wr ∧ (∀ b ∈ bs, b ∉ bsr)) ∧ W.heap.size ≤ wr.heap.size) (fun _ i _ => n - (intOf i).toNat)
  case atStart => exact ⟨0, Nat.zero_le _, rfl, ⟨_, bs0, Hst.out, by rw [Hg0.out]; exact Hr0.out, Hd0.out⟩, by simp⟩
  case round =>
    obtain ⟨j, hj, rfl, ⟨bs, bsr, hS, hR, hD⟩, hz⟩ := hrel
    obtain ⟨A', ca, rfl⟩ := RowE.slice hS
    have hBr : Below w0.heap.size w0 wr := by obtain ⟨_, _, _, h, _⟩ := hR; exact h
    by_cases hlt : j < n
    · rw [stsM_len] at hS ⊢
      obtain ⟨x, hx⟩ : ∃ x, sy[j]? = some x := ⟨_, List.getElem?_eq_getElem (by rw [Hsl.out]; exact hlt)⟩
      have hgl := (Hsy.out.lt g rfl).2
      have hcell := (hBr.cell (p := ⟨g, j, none⟩) hgl).trans (sym_cell Hsy.out hx).2
      have hxo := Hok.out x (List.mem_of_getElem? hx)
      have hst := Hp.out.go Hc.out (sy.take j) (fun k hk => Hok.out k (List.mem_of_mem_take hk))
      have hlen := go_len c (sy.take j) p
      have hlen2 : (goM c p (sy.take j)).2.length ≤ 200 := by
        have := List.length_take_le j sy
        omega
      have hq := impl_readF wr Hck.out Hc.out hst hlen2 hxo hR
      rw [← goM_snoc, show sy.take j ++ [x] = sy.take (j + 1) from by rw [List.take_add_one, hx]; rfl] at hq
      have Hq := Lib.hid hq
      have hBx : ∀ b ∈ bs, b ≠ B := by obtain ⟨_, hb, _, _, _⟩ := hR; exact RowE.off_bx hS hb (by decide)
      have Hi := Lib.hid (And.intro hS (And.intro hD hBx))
      clear hx hst hlen hlen2 hq hR hS hD hBx
      go_wp2_with fail
      refine Hq.out.mono ?_
      rintro e w1 ⟨rfl, bsr1, hR1, hT1, hN1⟩
      have hS1 : IntsE W.heap.size w1 (.slice A' (j + 1) ca) (stsM c p sy j) bs := (ints_ok _).off Hi.out.1 hT1 fun b hb h => by
        rcases List.mem_cons.1 h with e | e
        · exact Hi.out.2.2 b hb e
        · exact Hi.out.2.1 b hb e
      have hD1 : ∀ b ∈ bs, b ∉ bsr1 := fun b hb h => by
        rcases hN1 b h with e | e
        · exact Hi.out.2.1 b hb e
        · have := ((ints_ok _).lt Hi.out.1 b hb).2
          omega
      have s6 : w1.cell? ⟨B, 6, none⟩ = some (.int .i64 (goM c p (sy.take (j + 1))).1) := by obtain ⟨_, hb, _, _, _⟩ := hR1; exact hb.cell 6 _ rfl
      obtain ⟨q, hqe⟩ : ∃ q, q = (goM c p (sy.take (j + 1))).1 := ⟨_, rfl⟩
      rw [← hqe] at s6
      have Hqe := Lib.hid hqe
      have hpr1 := Lib.hid (impl_present w1 s6)
      have hz1w := hT1.size
      have hrow : w1.ownsRow W.heap.size 2 1 (.slice A' (j + 1) ca) (j + 1) ((stsM c p sy j).flatMap fun x => [Value.int .i64 x]) := by
        have := hS1.1
        rwa [stsM_len] at this
      have Hb := Lib.hid (And.intro hS1 (And.intro hR1 (And.intro hD1 hrow)))
      clear hqe hS1 hR1 hD1 hrow hT1 hN1 s6 hBr
      go_wp2_with (first
        | (go_at_call 69; refine hpr1.out.mono ?_; rintro e w2 ⟨rfl, rfl⟩)
        | (at_builtin; refine wpList_append_lies _ rfl _ _ 43 rfl W.heap.size 2 i0 (.int .i64 0) 1 8 Try.underlying43 hi hz0 hz1 hz2 rfl (by decide) _ (j + 1) _ rfl (Hb.out.2.2.2.alloc _) ⟨w1.heap.size, 0, none⟩ 1 1 [.int .i64 q] rfl rfl (World.news_of_block (Bx.new w1 _ _)) (one_int q) (by decide) ?c1 ?c2 ?c3 _ rfl ?_))
      case c1 => unfold maxLen; omega
      case c2 => omega
      case c3 => simp; omega
      intro g1 cap w5 hown hg hat hltg
      have hown2 : IntsE W.heap.size w5 (.slice (some ⟨g1, 0, none⟩) (j + 1 + 1) cap) (stsM c p sy (j + 1)) [g1] := by
        rw [stsM_succ, ← Hqe.out]
        refine ⟨?_, rfl⟩
        rw [List.length_append, stsM_len, List.flatMap_append]
        exact hown
      have hR5 : RunB w0 B c va vc vr vi (goM c p (sy.take (j + 1))) bsr1 w5 := by
        obtain ⟨hS1, hR1, hD1, _⟩ := Hb.out
        obtain ⟨vs1, hb1, hE1, hB1, hBB1⟩ := id hR1
        have hbse : ∀ k, (Value.slice A' (j + 1) ca).ownBlock = some k → k ∈ bs := fun k hk => by rw [hS1.2, hk]; simp
        refine hR1.kept ?_ ?_ ?_
        · refine (hg.block B (by rw [World.size_alloc]; have := hb1.lt; omega) fun e => ?_).trans (Below.heap_alloc w1 _ B hb1.lt)
          exact RowE.off_bx hS1 hb1 (by decide) B (hbse B e.symm) rfl
        · intro b hb
          have hbl := ((ints_ok _).lt hE1 b hb).2
          refine (hg.block b (by rw [World.size_alloc]; omega) fun e => ?_).trans (Below.heap_alloc w1 _ b hbl)
          exact hD1 b (hbse b e.symm) hb
        · refine (hB1.alloc hB1.size _).grown hg (by rw [World.size_alloc]; have := hB1.size; omega) fun k hk => ?_
          have := ((ints_ok _).lt hS1 k (hbse k hk)).1
          omega
      have hD5 : ∀ b ∈ [g1], b ∉ bsr1 := fun b hb h => by
        obtain ⟨hS1, hR1, hD1, _⟩ := Hb.out
        obtain ⟨vs1, hb1, hE1, hB1, hBB1⟩ := id hR1
        rw [List.mem_singleton.1 hb] at h
        rcases hat with e | e
        · exact hD1 g1 (by rw [hS1.2, e]; simp) h
        · have := ((ints_ok _).lt hE1 g1 h).2
          rw [e] at this
          (try rw [World.size_alloc] at this)
          omega
      have hz5 := hg.size
      rw [World.size_alloc] at hz5
      clear hown hg hat
      go_wp2
      go_roundw
      case rel => exact ⟨j + 1, by omega, by go_num, ⟨[g1], bsr1, hown2, hR5, hD5⟩, by omega⟩
      case measure => simp [intOf]; omega
    · have e : j = n := by omega
      subst e
      rw [List.take_of_length_le (by rw [Hsl.out]; exact Nat.le_refl _)] at hR
      go_wp2
      go_ret
      exact ⟨_, bs, bsr, rfl, hS, hR, hD⟩
end

section
variable {base : Nat} {va vc vr vi : Value} {c : Ck} {bsC : List Nat}
set_option maxHeartbeats 1600000 in
set_option maxRecDepth 100000 in
theorem impl_RunOf_no (s : ByteArray) (w : World) (hs : s.size ≤ 1048576) (hbd : BdC c) (hck : CkE base w (.agg #[.int .i64 c.stack, .int .i64 c.start, va, vc, vr, vi]) c bsC) (h : ¬ GivenM c s) :
    Calls Try.prog 23 #[.agg #[.int .i64 c.stack, .int .i64 c.start, va, vc, vr, vi], .string s] w (PostVV IntsE IntsE [] [] 1 w) := by
  have hB0 := (Below.refl w.heap.size w).alloc (Nat.le_refl _) (.cells #[.int .i64 c.stack, .int .i64 c.start, va, vc, vr, vi] 32)
  have H := Lib.hid (impl_for_no s _ hs hbd ((ck_ok _).later hck hB0) h)
  have HB0 := Lib.hid hB0
  clear hck hbd h hB0
  go_enter Try.func23, Try.ntmps23
  go_wp2_with fail
  refine H.out.mono ?_
  rintro e w1 ⟨rfl, hb1⟩
  have hA := HB0.out.trans (hb1.mono HB0.out.size)
  go_wp2
  go_ret3
  exact ⟨_, [], _, [], rfl, ⟨by simpa using World.ownsRow_nil _ _ _ _, rfl⟩, ⟨by simpa using World.ownsRow_nil _ _ _ _, rfl⟩, fun b hb => (by cases hb), hA.alloc hA.size _⟩

set_option maxHeartbeats 3200000 in
set_option maxRecDepth 100000 in
theorem impl_RunOf_yes (s : ByteArray) (w : World) (hbd : BdC c) (hck : CkE base w (.agg #[.int .i64 c.stack, .int .i64 c.start, va, vc, vr, vi]) c bsC) (h : GivenM c s) :
    Calls Try.prog 23 #[.agg #[.int .i64 c.stack, .int .i64 c.start, va, vc, vr, vi], .string s] w (PostVV IntsE IntsE (stsM c (c.start, []) (symL s.data.toList) s.size) (endM c s.data.toList).2 0 w) := by
  have hc := okC_of h.2
  have hw := h.1
  have h60 := h.1.1
  have hmf : ∀ (fn : Fn) (first cap : Array Value) (w : World), (Instr.makeFunc fn first cap).run Try.prog w = .ok (.func fn first cap) w := fun _ _ _ _ => rfl
  have hB0 := (Below.refl w.heap.size w).alloc (Nat.le_refl _) (.cells #[.int .i64 c.stack, .int .i64 c.start, va, vc, vr, vi] 32)
  have hbx := Box6.new w (.int .i64 c.stack) (.int .i64 c.start) va vc vr vi 32
  have hfor := impl_for_yes s _ hbd ((ck_ok _).later hck hB0) h
  have hstart := fun (W : World) => impl_startRun (c := c) (va := va) (vc := vc) (vr := vr) (vi := vi) W
  have hall := fun (W W2 : World) (B g : Nat) (hW : Below w.heap.size w W) (b : Nat) (hsy : W.ownsRow b 122 1 (.slice (some ⟨g, 0, none⟩) s.size s.size) s.size (symsV (symL s.data.toList))) (bs0 : List Nat) (hr : RunB W B c va vc vr vi (c.start, []) bs0 W2) =>
    impl_behind (p := (c.start, [])) W2 ((ck_ok _).later hck hW) hc (StM.start hc) (by simp) h60 hsy (symL_ok hw.2) hr
  change ∀ (W W2 : World) (B g : Nat), _ → ∀ b, _ → ∀ bs0, _ → Calls Try.prog _ _ W2 (fun e w' => ∃ v bs bsr, e = .returned v ∧ IntsE W2.heap.size w' v (stsM c (c.start, []) (symL s.data.toList) s.size) bs ∧ RunB W B c va vc vr vi (endM c s.data.toList) bsr w' ∧ (∀ b ∈ bs, b ∉ bsr)) at hall
  obtain ⟨X, hX⟩ : ∃ X, X = stsM c (c.start, []) (symL s.data.toList) s.size := ⟨_, rfl⟩
  obtain ⟨Q, hQ⟩ : ∃ Q, Q = endM c s.data.toList := ⟨_, rfl⟩
  rw [← hX, ← hQ] at hall
  rw [← hX, ← hQ]
  have Hfor := Lib.hid hfor
  have Hstart := Lib.hid hstart
  have Hall := Lib.hid hall
  have HB0 := Lib.hid hB0
  obtain ⟨t0, ht0⟩ : ∃ t, t = c.stack := ⟨_, rfl⟩
  obtain ⟨t1, ht1⟩ : ∃ t, t = c.start := ⟨_, rfl⟩
  rw [← ht0, ← ht1] at Hfor HB0 hbx Hstart ⊢
  have Ht := Lib.hid (And.intro ht0 ht1)
  clear hfor hstart hall hB0 hck hbd h hc hw hX hQ ht0 ht1
  obtain ⟨e0, e1, e2, e3, e4, e5, el⟩ := id hbx
  go_enter Try.func23, Try.ntmps23
  go_wp2_with fail
  refine Hfor.out.mono ?_
  rintro e w1 ⟨g, M, rfl, hsy, hps, hb1⟩
  have hA := HB0.out.trans (hb1.mono HB0.out.size)
  have hn1 := (Below.refl w1.heap.size w1).alloc (Nat.le_refl _) (.cells #[.slice (some ⟨g, 0, none⟩) s.size s.size, .slice (some ⟨M, 0, none⟩) s.size s.size] 78)
  have hA2 := hA.alloc hA.size (.cells #[.slice (some ⟨g, 0, none⟩) s.size s.size, .slice (some ⟨M, 0, none⟩) s.size s.size] 78)
  have hbx1 := (hbx.later hb1).later hn1
  have hN := Bx.new w1 78 #[.slice (some ⟨g, 0, none⟩) s.size s.size, .slice (some ⟨M, 0, none⟩) s.size s.size]
  have Hsy := Lib.hid (row_below hsy hn1)
  clear e0 e1 e2 e3 e4 e5 el hps hsy
  obtain ⟨e0, e1, e2, e3, e4, e5, el⟩ := id hbx1
  obtain ⟨W1, hW1⟩ : ∃ W1, W1 = w1.alloc (.cells #[.slice (some ⟨g, 0, none⟩) s.size s.size, .slice (some ⟨M, 0, none⟩) s.size s.size] 78) := ⟨_, rfl⟩
  rw [← hW1] at hbx1 hN Hsy hA2
  have HW1 := Lib.hid hW1
  clear hW1 hn1
  go_wp2_with fail
  rw [← HW1.out]
  refine (Hstart.out _).mono ?_
  rintro e w2 ⟨B, rfl, hR⟩
  obtain ⟨vs0, bs0, hx1, hx2, hx3, hx4⟩ := hR
  have hb2 : Below W1.heap.size W1 w2 := hx3
  have n0 : w2.cell? ⟨w1.heap.size, 0, none⟩ = some (.slice (some ⟨g, 0, none⟩) s.size s.size) := (hN.later hb2).cell 0 _ rfl
  have Hq := Lib.hid (Hall.out W1 w2 B g hA2 _ Hsy.out bs0 (by rw [← Ht.out.2]; exact ⟨vs0, by rw [← Ht.out.1, ← Ht.out.2]; rw [← Ht.out.1, ← Ht.out.2] at hx1; exact hx1, hx2, hx3, hx4⟩))
  have hs2 := hA2.size
  have hs3 := hb2.size
  clear e0 e1 e2 e3 e4 e5 el hx1 hx2 hx3
  go_wp2_with fail
  refine Hq.out.mono ?_
  rintro e w3 ⟨v3, bs3, bsr, rfl, hE3, ⟨vs, hb3, hS3, hB3, _⟩, hD3⟩
  have s7 : w3.cell? ⟨B, 7, none⟩ = some vs := hb3.cell 7 _ rfl
  have hA3 := hA2.trans (hB3.mono hA2.size)
  have He := Lib.hid (And.intro hE3 (And.intro hS3 hD3))
  clear hb3 hE3 hS3 hB3 hD3
  go_wp2
  go_quiet (fail)
  go_wp2
  go_ret3
  exact ⟨v3, bs3, vs, bsr, rfl, (ints_ok _).drewN ⟨row_base He.out.1.1 (by omega), He.out.1.2⟩ _, (ints_ok _).drewN ⟨row_base He.out.2.1.1 (by omega), He.out.2.1.2⟩ _, He.out.2.2, below_drewN hA3 _⟩
end
end Go.Proofs.Ythdjoligopmepaa
