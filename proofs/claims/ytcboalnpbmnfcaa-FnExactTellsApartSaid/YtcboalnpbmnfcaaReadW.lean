/- One step of a run of the program, walked. -/
import Derived.Test.YtcboalnpbmnfcaaReadI
import Derived.Outline
namespace Go.Proofs.Ytcboalnpbmnfcaa
open Go.RowKit
set_option linter.unusedVariables false

theorem as_push_push (v : Value) (w : World) : (Instr.typeAssert (.iface 219 v) 217 219 true).run Try.prog w = .ok (.tuple #[v, .bool true]) w := by kernel_rfl
theorem as_pop_push (v : Value) (w : World) : (Instr.typeAssert (.iface 220 v) 217 219 true).run Try.prog w = .ok (.tuple #[.agg #[.int .i64 0, .int .i64 0], .bool false]) w := by kernel_rfl
theorem as_pop_pop (v : Value) (w : World) : (Instr.typeAssert (.iface 220 v) 217 220 true).run Try.prog w = .ok (.tuple #[v, .bool true]) w := by kernel_rfl
theorem as_stay_push (v : Value) (w : World) : (Instr.typeAssert (.iface 222 v) 217 219 true).run Try.prog w = .ok (.tuple #[.agg #[.int .i64 0, .int .i64 0], .bool false]) w := by kernel_rfl
theorem as_stay_pop (v : Value) (w : World) : (Instr.typeAssert (.iface 222 v) 217 220 true).run Try.prog w = .ok (.tuple #[.slice none 0 0, .bool false]) w := by kernel_rfl
theorem as_stay_stay (v : Value) (w : World) : (Instr.typeAssert (.iface 222 v) 217 222 true).run Try.prog w = .ok (.tuple #[v, .bool true]) w := by kernel_rfl

/-- What a step leaves. -/
def ReadPost (w0 : World) (B : Nat) (c : Ck) (va vc vr vi : Value) (p : Int × List Int) (e : Ending) (W' : World) : Prop := e = .returned (.tuple #[]) ∧ RunAt w0 B c va vc vr vi p W'
/-- A run whose stack owns the blocks bs. -/
def RunB (w0 : World) (B : Nat) (c : Ck) (va vc vr vi : Value) (p : Int × List Int) (bs : List Nat) (W : World) : Prop :=
  ∃ vs, Bx W B 192 #[.int .i64 c.stack, .int .i64 c.start, va, vc, vr, vi, .int .i64 p.1, vs] ∧ IntsE w0.heap.size W vs p.2 bs ∧ Below w0.heap.size w0 W ∧ w0.heap.size ≤ B
/-- What a step leaves, and what it leaves alone. -/
def ReadPostF (w0 : World) (B : Nat) (c : Ck) (va vc vr vi : Value) (p : Int × List Int) (bs : List Nat) (W : World) (e : Ending) (W' : World) : Prop :=
  e = .returned (.tuple #[]) ∧ ∃ bs', RunB w0 B c va vc vr vi p bs' W' ∧ Turned (B :: bs) W W' ∧ ∀ b ∈ bs', b ∈ bs ∨ W.heap.size ≤ b
theorem Turned.set {bs : List Nat} {B : Nat} (hB : B ∈ bs) (x : World) (i : Nat) (u : Value) : Turned bs x (x.setCell ⟨B, i, none⟩ u) :=
  ⟨rfl, rfl, rfl, by simp, fun b _ hn => Below.heap_setCell _ _ _ b (fun e => hn (by rw [e]; exact hB))⟩
theorem Turned.drew' {bs : List Nat} {x y : World} (h : Turned bs x y) : Turned bs x y.drew := ⟨h.os, h.tape, h.output, h.size, h.block⟩

set_option maxHeartbeats 3200000 in
set_option maxRecDepth 100000 in
theorem read_call {base : Nat} {va vc vr vi : Value} {c : Ck} {bsC : List Nat} {w0 : World} {B : Nat} {p : Int × List Int} {k : Int} (W : World) (hck : CkE base w0 (.agg #[.int .i64 c.stack, .int .i64 c.start, va, vc, vr, vi]) c bsC) (hc : OkC c)
    (hp : StM c p) (hl : p.2.length ≤ 200) (hk : k = 0 ∨ k = 1) {bs : List Nat} (hr : RunB w0 B c va vc vr vi p bs W) :
    Calls Try.prog 152 #[.pointer (some ⟨B, 0, none⟩), .int .u8 k] W (ReadPostF w0 B c va vc vr vi ((callM c p.1 k).1, p.2 ++ [(callM c p.1 k).2]) bs W) := by
  obtain ⟨i0, hi, hz0, hz1, hz2⟩ := info_parts toInfo_i64
  obtain ⟨gc, n, kc, g2, k2, rfl, hsn, hn, l1, l2, h1, h2, h3⟩ := call_cells hck hc hp.state hk
  obtain ⟨vs, hb, hE, hB, hBB⟩ := hr
  obtain ⟨s, hs⟩ : ∃ s : Nat, p.1 = (s : Int) := ⟨p.1.toNat, by have := hp.state.1; omega⟩
  obtain ⟨st, xs⟩ := p
  dsimp only at hs hsn h1 h2 h3 hb hE hl ⊢
  subst hs
  rw [Int.toNat_natCast] at hsn h1
  obtain ⟨q, hq⟩ : ∃ q, q = callM c (s : Int) k := ⟨_, rfl⟩
  rw [← hq] at h2 h3 ⊢
  clear hq
  obtain ⟨q1, q2⟩ := q
  dsimp only at h2 h3 ⊢
  have hz := hB.size
  have x1 := (hB.cell (p := ⟨gc, s, none⟩) l1).trans h1
  have x2 := (hB.cell (p := ⟨g2, k.toNat * 2, none⟩) l2).trans h2
  have x3 := (hB.cell (p := ⟨g2, k.toNat * 2 + 1, none⟩) l2).trans h3
  have hmv := fun (W' : World) (hw : Below W.heap.size W W') => impl_moveAt_call (stack := c.stack) (start := c.start) (va := va) (vr := vr) (vi := vi) (kc := kc) W' hk hsn hn (by have := hw.size; omega) (by have := hw.size; omega)
    ((hw.cell (p := ⟨gc, s, none⟩) (by simp; omega)).trans x1) ((hw.cell (p := ⟨g2, k.toNat * 2, none⟩) (by simp; omega)).trans x2) ((hw.cell (p := ⟨g2, k.toNat * 2 + 1, none⟩) (by simp; omega)).trans x3)
  have Hmv := Lib.hid hmv
  have Hb := Lib.hid hb
  have HE := Lib.hid hE
  have hR := Below.refl W.heap.size W
  obtain ⟨t0, ht0⟩ : ∃ t, t = c.stack := ⟨_, rfl⟩
  obtain ⟨t1, ht1⟩ : ∃ t, t = c.start := ⟨_, rfl⟩
  rw [← ht0, ← ht1] at Hmv Hb hb
  have Ht := Lib.hid (And.intro ht0 ht1)
  clear ht0 ht1
  have e0 : W.cell? ⟨B, 0, none⟩ = some (.int .i64 t0) := hb.cell 0 _ rfl
  have e1 : W.cell? ⟨B, 1, none⟩ = some (.int .i64 t1) := hb.cell 1 _ rfl
  have e2 : W.cell? ⟨B, 2, none⟩ = some va := hb.cell 2 _ rfl
  have e3 : W.cell? ⟨B, 3, none⟩ = some (.slice (some ⟨gc, 0, none⟩) n kc) := hb.cell 3 _ rfl
  have e4 : W.cell? ⟨B, 4, none⟩ = some vr := hb.cell 4 _ rfl
  have e5 : W.cell? ⟨B, 5, none⟩ = some vi := hb.cell 5 _ rfl
  have e6 : W.cell? ⟨B, 6, none⟩ = some (.int .i64 (s : Int)) := hb.cell 6 _ rfl
  clear hmv h1 h2 h3 x1 x2 x3 hb hE hck hc hp
  go_enter Try.func152, Try.ntmps152
  go_upto_region 0 with fail
  go_cut [16] (fun s16 wx => s16 = .iface 219 (.agg #[.int .i64 q1, .int .i64 q2]) ∧ Below W.heap.size W wx)
  case first =>
    go_region_with (go_at_call 177; refine (Hmv.out _ (by first | exact hR.drew | exact hR)).mono ?_; rintro e w1 ⟨rfl, hb1⟩)
    all_goals
      go_wp2_with fail
      go_meet
      exact ⟨rfl, by first | exact hR.drew.trans (hb1.mono hR.drew.size) | exact hb1⟩
  case rest =>
    obtain ⟨rfl, hw1⟩ := hcut
    have hb1 := Hb.out.later hw1
    have ta := as_push_push
    have f6 := hb1.frozen 6
    have e6 : wc.cell? ⟨B, 6, none⟩ = some (.int .i64 (s : Int)) := hb1.cell 6 _ rfl
    have e7 : wc.cell? ⟨B, 7, none⟩ = some vs := hb1.cell 7 _ rfl
    have hlt := hb1.lt
    have hbs := (hb1.set 6 (.int .i64 q1)).alloc (.cells #[.int .i64 q1, .int .i64 q2] 219)
    have hM := Bx.new (wc.setCell ⟨B, 6, none⟩ (.int .i64 q1)) 219 #[.int .i64 q1, .int .i64 q2]
    rw [size_set] at hM
    have hE1 := (ints_ok _).later HE.out hw1
    have hE4 : IntsE w0.heap.size ((wc.setCell ⟨B, 6, none⟩ (.int .i64 q1)).alloc (.cells #[.int .i64 q1, .int .i64 q2] 219)) vs xs bs :=
      (ints_ok _).later ((ints_ok _).kept hE1 fun b hbb => Below.heap_setCell _ _ _ b (RowE.off_bx hE1 hb1 (by decide) b hbb)) ((Below.refl _ _).alloc (Nat.le_refl _) _)
    have hB4 : Below w0.heap.size w0 ((wc.setCell ⟨B, 6, none⟩ (.int .i64 q1)).alloc (.cells #[.int .i64 q1, .int .i64 q2] 219)) :=
      ((hB.trans (hw1.mono hz)).setCell (p := ⟨B, 6, none⟩) hBB _).alloc (by simp; have := hw1.size; omega) _
    have hT4 : Turned (B :: bs) W ((wc.setCell ⟨B, 6, none⟩ (.int .i64 q1)).alloc (.cells #[.int .i64 q1, .int .i64 q2] 219)) :=
      ((Turned.of_below hw1).trans (Turned.set (by simp) _ _ _)).trans (Turned.of_below ((Below.refl _ _).alloc (Nat.le_refl _) _))
    have hz4 := hB4.size
    go_wp2
    generalize ((wc.setCell ⟨B, 6, none⟩ (.int .i64 q1)).alloc (.cells #[.int .i64 q1, .int .i64 q2] 219)) = W4 at *
    generalize wc.heap.size = M at *
    have e7 : W4.cell? ⟨B, 7, none⟩ = some vs := hbs.cell 7 _ rfl
    have f7 := hbs.frozen 7
    have e7a : ∀ o, (W4.alloc o).cell? ⟨B, 7, none⟩ = some vs := fun o => (hbs.alloc o).cell 7 _ rfl
    have m1 : W4.cell? ⟨M, 1, none⟩ = some (.int .i64 q2) := hM.cell 1 _ rfl
    have hnb := RowE.off_bx hE4 hbs (by decide)
    have hb5 : Bx ((W4.alloc (.cells #[.int .i64 q2] 2)).drew) B 192 _ := (hbs.alloc (.cells #[.int .i64 q2] 2)).same rfl
    have hE5 : IntsE w0.heap.size ((W4.alloc (.cells #[.int .i64 q2] 2)).drew) vs xs bs := (ints_ok _).kept ((ints_ok _).later hE4 ((Below.refl _ _).alloc (Nat.le_refl _) (.cells #[.int .i64 q2] 2))) fun _ _ => rfl
    have hB5 : Below w0.heap.size w0 ((W4.alloc (.cells #[.int .i64 q2] 2)).drew) := (hB4.alloc hz4 _).drew
    have hN5 : ((W4.alloc (.cells #[.int .i64 q2] 2)).drew).heap[W4.heap.size]? = some (.cells #[.int .i64 q2] 2 (0, 0)) := Bx.new W4 _ _
    have hz5 := hB5.size
    have hT5 : Turned (B :: bs) W ((W4.alloc (.cells #[.int .i64 q2] 2)).drew) := (hT4.trans (Turned.of_below ((Below.refl _ _).alloc (Nat.le_refl _) _))).drew'
    have hzW := hT5.size
    have HT := Lib.hid hT5
    clear hT5 hT4
    have hown5 := hE5.1
    have hone : ∀ u ∈ [Value.int .i64 q2], u.oneCell' = true := by intro u hu; rw [List.mem_singleton.1 hu]; rfl
    have Hp := Lib.hid (And.intro hnb (And.intro hb5 (And.intro hE5 (And.intro hB5 (And.intro hN5 (And.intro hown5 hone))))))
    clear hnb hb5 hE5 hB5 hN5 hown5 hone hbs hM hE4 hB4 hE1 hb1 ta
    go_region_law (refine step_append_lies _ rfl (.tmp 29) (.tmp 32) 48 rfl w0.heap.size 2 i0 (.int .i64 0) 1 8 Try.underlying48 hi hz0 hz1 hz2 rfl (by decide) vs xs.length _ (by simp [Act.eval]) Hp.out.2.2.2.2.2.1 ⟨W4.heap.size, 0, none⟩ 1 1 [.int .i64 q2] (by simp [Act.eval]) rfl (World.news_of_block Hp.out.2.2.2.2.1) Hp.out.2.2.2.2.2.2 (by decide) (by unfold maxLen; omega) (by omega) hz5 _ rfl ?_
                   intro g cap w' hown hg hat hltg
                   have hb6 := Hp.out.2.1.same (hg.block B Hp.out.2.1.lt (fun e => Hp.out.1 B (by rw [Hp.out.2.2.1.2, ← e]; simp) rfl))
                   have e7' : w'.cell? ⟨B, 7, none⟩ = some vs := hb6.cell 7 _ rfl
                   have f7' := hb6.frozen 7)
    all_goals
      go_wp2
      go_end0
      have hE6 : IntsE w0.heap.size w' (.slice (some ⟨g, 0, none⟩) (xs.length + 1) cap) (xs ++ [q2]) [g] := ⟨by simpa using hown, rfl⟩
      have hne := RowE.off_bx hE6 hb6 (by decide)
      have hb7 := hb6.set 7 (.slice (some ⟨g, 0, none⟩) (xs.length + 1) cap)
      rw [Ht.out.1, Ht.out.2] at hb7
      refine ⟨rfl, [g], ⟨_, hb7, (ints_ok _).kept hE6 fun b hbb => Below.heap_setCell _ _ _ b (hne b hbb), ?_, hBB⟩, ?_, fun b hbb => ?_⟩
      · refine Below.setCell (p := ⟨B, 7, none⟩) (Hp.out.2.2.2.1.grown hg hz5 fun k hk => ?_) hBB _
        exact ((ints_ok _).lt Hp.out.2.2.1 k (by rw [Hp.out.2.2.1.2, hk]; simp)).1
      · refine (HT.out.trans (Turned.of_grown hg fun r hr => ?_)).trans (Turned.set (by simp) _ _ _)
        rw [Hp.out.2.2.1.2, hr]
        simp
      · rw [List.mem_singleton.1 hbb]
        rcases hat with h1 | h1
        · exact .inl (by rw [Hp.out.2.2.1.2, h1]; simp)
        · exact .inr (by rw [h1]; exact hzW)

set_option maxHeartbeats 3200000 in
set_option maxRecDepth 100000 in
theorem read_inn {base : Nat} {va vc vr vi : Value} {c : Ck} {bsC : List Nat} {w0 : World} {B : Nat} {p : Int × List Int} {k : Int} (W : World) (hck : CkE base w0 (.agg #[.int .i64 c.stack, .int .i64 c.start, va, vc, vr, vi]) c bsC) (hc : OkC c)
    (hp : StM c p) (hl : p.2.length ≤ 200) (hk : k = 4 ∨ k = 5) {bs : List Nat} (hr : RunB w0 B c va vc vr vi p bs W) :
    Calls Try.prog 152 #[.pointer (some ⟨B, 0, none⟩), .int .u8 k] W (ReadPostF w0 B c va vc vr vi (innM c p.1 (k - 4), p.2) bs W) := by
  obtain ⟨gc, n, kc, g2, k2, rfl, hsn, hn, l1, l2, h1, h2⟩ := inn_cells hck hc hp.state (k := k - 4) (by omega)
  obtain ⟨vs, hb, hE, hB, hBB⟩ := hr
  obtain ⟨s, hs⟩ : ∃ s : Nat, p.1 = (s : Int) := ⟨p.1.toNat, by have := hp.state.1; omega⟩
  obtain ⟨st, xs⟩ := p
  dsimp only at hs hsn h1 h2 hb hE hl ⊢
  subst hs
  rw [Int.toNat_natCast] at hsn h1
  obtain ⟨q, hq⟩ : ∃ q, q = innM c (s : Int) (k - 4) := ⟨_, rfl⟩
  rw [← hq] at h2 ⊢
  clear hq
  have hz := hB.size
  have x1 := (hB.cell (p := ⟨gc, s, none⟩) l1).trans h1
  have x2 := (hB.cell (p := ⟨g2, (k - 4).toNat, none⟩) l2).trans h2
  have hmv := fun (W' : World) (hw : Below W.heap.size W W') => impl_moveAt_inn (stack := c.stack) (start := c.start) (va := va) (vc := vc) (vr := vr) (kc := kc) W' hk hsn hn (by have := hw.size; omega) (by have := hw.size; omega)
    ((hw.cell (p := ⟨gc, s, none⟩) (by simp; omega)).trans x1) ((hw.cell (p := ⟨g2, (k - 4).toNat, none⟩) (by simp; omega)).trans x2)
  clear x1 x2
  have Hmv := Lib.hid hmv
  have HE := Lib.hid hE
  have hR := Below.refl W.heap.size W
  obtain ⟨t0, ht0⟩ : ∃ t, t = c.stack := ⟨_, rfl⟩
  obtain ⟨t1, ht1⟩ : ∃ t, t = c.start := ⟨_, rfl⟩
  rw [← ht0, ← ht1] at Hmv hb
  have Ht := Lib.hid (And.intro ht0 ht1)
  have Hb := Lib.hid hb
  have e0 : W.cell? ⟨B, 0, none⟩ = some (.int .i64 t0) := hb.cell 0 _ rfl
  have e1 : W.cell? ⟨B, 1, none⟩ = some (.int .i64 t1) := hb.cell 1 _ rfl
  have e2 : W.cell? ⟨B, 2, none⟩ = some va := hb.cell 2 _ rfl
  have e3 : W.cell? ⟨B, 3, none⟩ = some vc := hb.cell 3 _ rfl
  have e4 : W.cell? ⟨B, 4, none⟩ = some vr := hb.cell 4 _ rfl
  have e5 : W.cell? ⟨B, 5, none⟩ = some (.slice (some ⟨gc, 0, none⟩) n kc) := hb.cell 5 _ rfl
  have e6 : W.cell? ⟨B, 6, none⟩ = some (.int .i64 (s : Int)) := hb.cell 6 _ rfl
  clear hmv h1 h2 hb hE hck hc hp ht0 ht1
  go_enter Try.func152, Try.ntmps152
  go_upto_region 0 with fail
  go_cut [16] (fun s16 wx => s16 = .iface 222 (.int .i64 q) ∧ Below W.heap.size W wx)
  case first =>
    go_region_with (go_at_call 177; refine (Hmv.out _ (by first | exact hR.drew | exact hR)).mono ?_; rintro e w1 ⟨rfl, hb1⟩)
    all_goals
      go_wp2_with fail
      go_meet
      exact ⟨rfl, by first | exact hR.drew.trans (hb1.mono hR.drew.size) | exact hb1⟩
  case rest =>
    obtain ⟨rfl, hw1⟩ := hcut
    have hb1 := Hb.out.later hw1
    have hE1 := (ints_ok _).later HE.out hw1
    have hB1 := hB.trans (hw1.mono hz)
    have hne := RowE.off_bx hE1 hb1 (by decide)
    have ta1 := as_stay_push
    have ta2 := as_stay_pop
    have ta3 := as_stay_stay
    have f6 := hb1.frozen 6
    have e6 : wc.cell? ⟨B, 6, none⟩ = some (.int .i64 (s : Int)) := hb1.cell 6 _ rfl
    have hb7 := hb1.set 6 (.int .i64 q)
    rw [Ht.out.1, Ht.out.2] at hb7
    have Hend := Lib.hid (show RunB w0 B c va vc vr (.slice (some ⟨gc, 0, none⟩) n kc) (q, xs) bs (wc.setCell ⟨B, 6, none⟩ (.int .i64 q)) from
      ⟨vs, hb7, (ints_ok _).kept hE1 fun b hbb => Below.heap_setCell _ _ _ b (hne b hbb), hB1.setCell (p := ⟨B, 6, none⟩) hBB _, hBB⟩)
    have HTT := Lib.hid (Turned.of_below (bs := B :: bs) hw1)
    clear hb7 hb1 hE1 hB1 hne
    go_wp2
    go_end0
    exact ⟨rfl, bs, Hend.out, by first | exact HTT.out.trans (Turned.set (by simp) _ _ _) | exact (HTT.out.trans (Turned.set (by simp) _ _ _)).trans (Turned.set (by simp) _ _ _), fun b hbb => .inl hbb⟩

set_option maxHeartbeats 3200000 in
set_option maxRecDepth 100000 in
theorem read_empty {base : Nat} {va vc vr vi : Value} {c : Ck} {bsC : List Nat} {w0 : World} {B : Nat} {p : Int × List Int} {k : Int} (W : World) (hck : CkE base w0 (.agg #[.int .i64 c.stack, .int .i64 c.start, va, vc, vr, vi]) c bsC) (hc : OkC c)
    (hp : StM c p) (hl : p.2.length ≤ 200) (hk : k = 2 ∨ k = 3) (hxs : p.2 = []) {bs : List Nat} (hr : RunB w0 B c va vc vr vi p bs W) :
    Calls Try.prog 152 #[.pointer (some ⟨B, 0, none⟩), .int .u8 k] W (ReadPostF w0 B c va vc vr vi (retM c p.1 (k - 2) c.stack, []) bs W) := by
  obtain ⟨gc, n, kc, g2, k2, gm, nm, cm, rfl, hsn, hn, l1, l2, l3, h1, h2, hnm, hnm2, h3⟩ := ret_cells hck hc hp.state (k := k - 2) (x := c.stack) (by omega) ⟨by have := hc.st1; omega, Int.le_refl _⟩
  obtain ⟨vs, hb, hE, hB, hBB⟩ := hr
  obtain ⟨s, hs⟩ : ∃ s : Nat, p.1 = (s : Int) := ⟨p.1.toNat, by have := hp.state.1; omega⟩
  obtain ⟨st, xs⟩ := p
  dsimp only at hs hsn h1 h2 h3 hb hE hl hxs ⊢
  subst hs
  rw [Int.toNat_natCast] at hsn h1
  subst hxs
  obtain ⟨q, hq⟩ : ∃ q, q = retM c (s : Int) (k - 2) c.stack := ⟨_, rfl⟩
  rw [← hq] at h3 ⊢
  clear hq
  have hposn : c.stack.toNat = nm - 1 := by have := hc.st1; omega
  have hpos : 0 < nm := by have := hc.st1; omega
  rw [hposn] at h3
  obtain ⟨A, ca, rfl⟩ := RowE.slice hE
  simp only [List.length_nil] at hb hE
  have hz := hB.size
  have x1 := (hB.cell (p := ⟨gc, s, none⟩) l1).trans h1
  have x2 := (hB.cell (p := ⟨g2, (k - 2).toNat, none⟩) l2).trans h2
  have x3 := (hB.cell (p := ⟨gm, nm - 1, none⟩) l3).trans h3
  have hmv := fun (W' : World) (hw : Below W.heap.size W W') => impl_moveAt_ret (stack := c.stack) (start := c.start) (va := va) (vc := vc) (vi := vi) (kc := kc) W' hk hsn hn (by have := hw.size; omega) (by have := hw.size; omega)
    ((hw.cell (p := ⟨gc, s, none⟩) (by simp; omega)).trans x1) ((hw.cell (p := ⟨g2, (k - 2).toNat, none⟩) (by simp; omega)).trans x2)
  clear x1 x2
  have Hmv := Lib.hid hmv
  have HE := Lib.hid hE
  have hR := Below.refl W.heap.size W
  obtain ⟨t0, ht0⟩ : ∃ t, t = c.stack := ⟨_, rfl⟩
  obtain ⟨t1, ht1⟩ : ∃ t, t = c.start := ⟨_, rfl⟩
  rw [← ht0, ← ht1] at Hmv hb
  have Ht := Lib.hid (And.intro ht0 ht1)
  have Hb := Lib.hid hb
  have e0 : W.cell? ⟨B, 0, none⟩ = some (.int .i64 t0) := hb.cell 0 _ rfl
  have e1 : W.cell? ⟨B, 1, none⟩ = some (.int .i64 t1) := hb.cell 1 _ rfl
  have e2 : W.cell? ⟨B, 2, none⟩ = some va := hb.cell 2 _ rfl
  have e3 : W.cell? ⟨B, 3, none⟩ = some vc := hb.cell 3 _ rfl
  have e4 : W.cell? ⟨B, 4, none⟩ = some (.slice (some ⟨gc, 0, none⟩) n kc) := hb.cell 4 _ rfl
  have e5 : W.cell? ⟨B, 5, none⟩ = some vi := hb.cell 5 _ rfl
  have e6 : W.cell? ⟨B, 6, none⟩ = some (.int .i64 (s : Int)) := hb.cell 6 _ rfl
  have hpp := fun (W' : World) (hw : Below W.heap.size W W') => impl_pop_empty (cm := cm) W' hpos hnm2 (hb.later hw) ((hw.cell (p := ⟨gm, nm - 1, none⟩) (by simp; omega)).trans x3)
  have Hpp := Lib.hid hpp
  clear hpp x3
  clear hmv h1 h2 h3 hb hE hck hc hp ht0 ht1 hpos hposn
  go_enter Try.func152, Try.ntmps152
  go_upto_region 0 with fail
  go_cut [16] (fun s16 wx => s16 = .iface 220 (.slice (some ⟨gm, 0, none⟩) nm cm) ∧ Below W.heap.size W wx)
  case first =>
    go_region_with (go_at_call 177; refine (Hmv.out _ (by first | exact hR.drew | exact hR)).mono ?_; rintro e w1 ⟨rfl, hb1⟩)
    all_goals
      go_wp2_with fail
      go_meet
      exact ⟨rfl, by first | exact hR.drew.trans (hb1.mono hR.drew.size) | exact hb1⟩
  case rest =>
    obtain ⟨rfl, hw1⟩ := hcut
    have hb1 := Hb.out.later hw1
    have hE1 := (ints_ok _).later HE.out hw1
    have hB1 := hB.trans (hw1.mono hz)
    have hne := RowE.off_bx hE1 hb1 (by decide)
    have ta1 := as_pop_push
    have ta2 := as_pop_pop
    have hb7 := hb1.set 6 (.int .i64 q)
    rw [Ht.out.1, Ht.out.2] at hb7
    have Hend := Lib.hid (show RunB w0 B c va vc (.slice (some ⟨gc, 0, none⟩) n kc) vi (q, []) bs (wc.setCell ⟨B, 6, none⟩ (.int .i64 q)) from
      ⟨_, hb7, (ints_ok _).kept hE1 fun b hbb => Below.heap_setCell _ _ _ b (hne b hbb), hB1.setCell (p := ⟨B, 6, none⟩) hBB _, hBB⟩)
    have HTT := Lib.hid (Turned.of_below (bs := B :: bs) hw1)
    clear hb7 hb1 hE1 hB1 hne
    go_wp2_with fail
    refine (Hpp.out _ hw1).mono ?_
    rintro e w1 ⟨rfl, rfl⟩
    go_wp2
    go_end0
    exact ⟨rfl, bs, Hend.out, by first | exact HTT.out.trans (Turned.set (by simp) _ _ _) | exact (HTT.out.trans (Turned.set (by simp) _ _ _)).trans (Turned.set (by simp) _ _ _), fun b hbb => .inl hbb⟩

set_option maxHeartbeats 3200000 in
set_option maxRecDepth 100000 in
theorem read_mark {base : Nat} {va vc vr vi : Value} {c : Ck} {bsC : List Nat} {w0 : World} {B : Nat} {p : Int × List Int} {k : Int} (W : World) (hck : CkE base w0 (.agg #[.int .i64 c.stack, .int .i64 c.start, va, vc, vr, vi]) c bsC) (hc : OkC c)
    (hp : StM c p) (hl : p.2.length ≤ 200) (hk : k = 2 ∨ k = 3) {ys : List Int} {x : Int} (hxs : p.2 = ys ++ [x]) {bs : List Nat} (hr : RunB w0 B c va vc vr vi p bs W) :
    Calls Try.prog 152 #[.pointer (some ⟨B, 0, none⟩), .int .u8 k] W (ReadPostF w0 B c va vc vr vi (retM c p.1 (k - 2) x, ys) bs W) := by
  have hx := hp.marks x (by rw [hxs]; simp)
  obtain ⟨gc, n, kc, g2, k2, gm, nm, cm, rfl, hsn, hn, l1, l2, l3, h1, h2, hnm, hnm2, h3⟩ := ret_cells hck hc hp.state (k := k - 2) (x := x) (by omega) (by omega)
  obtain ⟨vs, hb, hE, hB, hBB⟩ := hr
  obtain ⟨s, hs⟩ : ∃ s : Nat, p.1 = (s : Int) := ⟨p.1.toNat, by have := hp.state.1; omega⟩
  obtain ⟨st, xs⟩ := p
  dsimp only at hs hsn h1 h2 h3 hb hE hl hxs ⊢
  subst hs
  rw [Int.toNat_natCast] at hsn h1
  subst hxs
  obtain ⟨q, hq⟩ : ∃ q, q = retM c (s : Int) (k - 2) x := ⟨_, rfl⟩
  rw [← hq] at h3 ⊢
  clear hq
  have hx2 : x < (nm : Int) := by omega
  have hx3 : (ys ++ [x])[ys.length]? = some x := by simp
  obtain ⟨A, ca, rfl⟩ := RowE.slice hE
  obtain ⟨gs, rfl, _, _⟩ := RowE.head hE (j := ys.length) (by simp)
  have hs3 := IntsE.cell' hE hx3
  rw [show (ys ++ [x]).length = ys.length + 1 from by simp] at hb hE hl
  obtain ⟨hEp, hca, hcc⟩ := IntsE.pop hE
  rw [List.dropLast_concat] at hEp
  have HEp := Lib.hid hEp
  clear hEp
  have hz := hB.size
  have x1 := (hB.cell (p := ⟨gc, s, none⟩) l1).trans h1
  have x2 := (hB.cell (p := ⟨g2, (k - 2).toNat, none⟩) l2).trans h2
  have x3 := (hB.cell (p := ⟨gm, x.toNat, none⟩) l3).trans h3
  have hmv := fun (W' : World) (hw : Below W.heap.size W W') => impl_moveAt_ret (stack := c.stack) (start := c.start) (va := va) (vc := vc) (vi := vi) (kc := kc) W' hk hsn hn (by have := hw.size; omega) (by have := hw.size; omega)
    ((hw.cell (p := ⟨gc, s, none⟩) (by simp; omega)).trans x1) ((hw.cell (p := ⟨g2, (k - 2).toNat, none⟩) (by simp; omega)).trans x2)
  clear x1 x2
  have Hmv := Lib.hid hmv
  have HE := Lib.hid hE
  have hR := Below.refl W.heap.size W
  obtain ⟨t0, ht0⟩ : ∃ t, t = c.stack := ⟨_, rfl⟩
  obtain ⟨t1, ht1⟩ : ∃ t, t = c.start := ⟨_, rfl⟩
  rw [← ht0, ← ht1] at Hmv hb
  have Ht := Lib.hid (And.intro ht0 ht1)
  have Hb := Lib.hid hb
  have e0 : W.cell? ⟨B, 0, none⟩ = some (.int .i64 t0) := hb.cell 0 _ rfl
  have e1 : W.cell? ⟨B, 1, none⟩ = some (.int .i64 t1) := hb.cell 1 _ rfl
  have e2 : W.cell? ⟨B, 2, none⟩ = some va := hb.cell 2 _ rfl
  have e3 : W.cell? ⟨B, 3, none⟩ = some vc := hb.cell 3 _ rfl
  have e4 : W.cell? ⟨B, 4, none⟩ = some (.slice (some ⟨gc, 0, none⟩) n kc) := hb.cell 4 _ rfl
  have e5 : W.cell? ⟨B, 5, none⟩ = some vi := hb.cell 5 _ rfl
  have e6 : W.cell? ⟨B, 6, none⟩ = some (.int .i64 (s : Int)) := hb.cell 6 _ rfl
  have hgs : gs < W.heap.size := by
    obtain ⟨_, h, hg, _⟩ := RowE.head hE (j := ys.length) (by simp)
    simp only [Option.some.injEq] at h
    have : gs = _ := congrArg Addr.block h
    omega
  have hpp := fun (W' : World) (hw : Below W.heap.size W W') => impl_pop_mark (cm := cm) W' hnm2 hca hcc (hb.later hw) ⟨hx.1, hx2⟩ ((hw.cell (p := ⟨gm, x.toNat, none⟩) (by simp; omega)).trans x3) ((hw.cell (p := ⟨gs, ys.length, none⟩) (by simpa using hgs)).trans hs3)
  have Hpp := Lib.hid hpp
  clear hpp x3 hgs
  clear hmv h1 h2 h3 hb hE hck hc hp ht0 ht1 hx hx2 hx3 hs3 hcc
  go_enter Try.func152, Try.ntmps152
  go_upto_region 0 with fail
  go_cut [16] (fun s16 wx => s16 = .iface 220 (.slice (some ⟨gm, 0, none⟩) nm cm) ∧ Below W.heap.size W wx)
  case first =>
    go_region_with (go_at_call 177; refine (Hmv.out _ (by first | exact hR.drew | exact hR)).mono ?_; rintro e w1 ⟨rfl, hb1⟩)
    all_goals
      go_wp2_with fail
      go_meet
      exact ⟨rfl, by first | exact hR.drew.trans (hb1.mono hR.drew.size) | exact hb1⟩
  case rest =>
    obtain ⟨rfl, hw1⟩ := hcut
    have hb1 := Hb.out.later hw1
    have hE1 := (ints_ok _).later HE.out hw1
    have hB1 := hB.trans (hw1.mono hz)
    have hne := RowE.off_bx hE1 hb1 (by decide)
    have ta1 := as_pop_push
    have ta2 := as_pop_pop
    have hb7 := (hb1.set 6 (.int .i64 q)).set 7 (.slice (some ⟨gs, 0, none⟩) ys.length ca)
    rw [Ht.out.1, Ht.out.2] at hb7
    have Hend := Lib.hid (show RunB w0 B c va vc (.slice (some ⟨gc, 0, none⟩) n kc) vi (q, ys) bs ((wc.setCell ⟨B, 6, none⟩ (.int .i64 q)).setCell ⟨B, 7, none⟩ (.slice (some ⟨gs, 0, none⟩) ys.length ca)) from
      ⟨_, hb7, (ints_ok _).kept ((ints_ok _).later HEp.out hw1) fun b hbb => (Below.heap_setCell _ _ _ b (hne b hbb)).trans (Below.heap_setCell _ _ _ b (hne b hbb)), (hB1.setCell (p := ⟨B, 6, none⟩) hBB _).setCell (p := ⟨B, 7, none⟩) hBB _, hBB⟩)
    have HTT := Lib.hid (Turned.of_below (bs := B :: bs) hw1)
    clear hb7 hb1 hE1 hB1 hne
    go_wp2_with fail
    refine (Hpp.out _ hw1).mono ?_
    rintro e w1 ⟨rfl, rfl⟩
    go_wp2
    go_end0
    exact ⟨rfl, bs, Hend.out, by first | exact HTT.out.trans (Turned.set (by simp) _ _ _) | exact (HTT.out.trans (Turned.set (by simp) _ _ _)).trans (Turned.set (by simp) _ _ _), fun b hbb => .inl hbb⟩
end Go.Proofs.Ytcboalnpbmnfcaa
