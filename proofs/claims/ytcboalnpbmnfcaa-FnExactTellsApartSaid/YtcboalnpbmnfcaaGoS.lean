/- One step of a run of the model, walked. -/
import Derived.Test.YtcboalnpbmnfcaaStepS
import Derived.Test.YtcboalnpbmnfcaaReadI
import Derived.Test.YtcboalnpbmnfcaaSpecValid
import Derived.Deep.RegionHeld3
import Derived.IntWalk
import Derived.Laws.NewBlocks
namespace Go.Proofs.Ytcboalnpbmnfcaa
open Go.RowKit
set_option linter.unusedVariables false

section
variable {base : Nat} {va vc vr vi : Value} {c : Ck} {bsC : List Nat}
theorem spec_okC (C : Nat) (w : World) (hbd : BdC c) (hck : CkE base w (.agg #[.int .i64 c.stack, .int .i64 c.start, va, vc, vr, vi]) c bsC) (hbx : Box6 w C (.int .i64 c.stack) (.int .i64 c.start) va vc vr vi) :
    Calls Try.prog 55 #[.pointer (some ⟨C, 0, none⟩)] w fun e w' => e = .returned (.bool (okM c)) ∧ ∃ m, w' = w.drewN m := by
  obtain ⟨_, _, _, _, b1, b2, b3, b4, hv, h1, h2, h3, h4, _, _⟩ := hck
  simp only [Value.agg.injEq, Array.mk.injEq, List.cons.injEq, and_true, true_and] at hv
  obtain ⟨rfl, rfl, rfl, rfl⟩ := hv
  obtain ⟨A, ka, rfl⟩ := RowE.slice h1
  obtain ⟨B, kb, rfl⟩ := ManyE.slice h2
  obtain ⟨R, kr, rfl⟩ := ManyE.slice h3
  obtain ⟨I, ki, rfl⟩ := ManyE.slice h4
  rw [okM_okB]
  cases hh : hdB c.stack c.start c.accept.length c.call.length c.ret.length c.inner.length with
  | false =>
    rw [okB, hh, Bool.false_and]
    refine (spec_head_no _ A B R I _ ka _ kb _ kr _ ki _ _ _ hbd.accept hbd.call.1 hbd.ret.1 hbd.inner.1 hbx hh).mono ?_
    rintro e w' ⟨rfl, rfl⟩
    exact ⟨rfl, 0, rfl⟩
  | true =>
    obtain ⟨e1, e2, e3, e4, e5, e6, e7, e8⟩ := hdM_yes hh
    rw [okB, hh, Bool.true_and]
    clear hh
    rw [e5] at h2
    rw [e6] at h3
    rw [e7] at h4
    rw [e5, e6, e7] at hbx
    exact spec_loop _ A B R I _ ka kb kr ki _ _ _ _ _ b2 b3 b4 _ hbx h2 h3 h4 hbd.call hbd.ret hbd.inner e5 e6 e7 (by simp only [rngB, decide_eq_true_eq]; omega) (by simp only [rngB, decide_eq_true_eq]; omega) e8

/-- What a step of the model leaves. -/
def StepPost (w : World) (p : Int × List Int) (bs0 : List Nat) (e : Ending) (w' : World) : Prop := ∃ v bs, e = .returned (.tuple #[.int .i64 p.1, v]) ∧ IntsE 0 w' v p.2 bs ∧ Below w.heap.size w w' ∧ ∀ b ∈ bs, b ∈ bs0 ∨ w.heap.size ≤ b
theorem IntsE.zero {base : Nat} {w : World} {v : Value} {xs : List Int} {bs : List Nat} (h : IntsE base w v xs bs) : IntsE 0 w v xs bs := ⟨row_base h.1 (Nat.zero_le _), h.2⟩

set_option maxHeartbeats 3200000 in
set_option maxRecDepth 100000 in
theorem step_inn {base' C : Nat} {p : Int × List Int} {b : UInt8} {vs : Value} {bs : List Nat} (W : World) (hck : CkE base W (.agg #[.int .i64 c.stack, .int .i64 c.start, va, vc, vr, vi]) c bsC) (hbx : Box6 W C (.int .i64 c.stack) (.int .i64 c.start) va vc vr vi) (hc : OkC c)
    (hp : StM c p) (hk : symNo b.toNat = 4 ∨ symNo b.toNat = 5) (hE : IntsE base' W vs p.2 bs) :
    Calls Try.prog 150 #[.pointer (some ⟨C, 0, none⟩), .int .i64 p.1, vs, .int .u8 b.toNat] W (StepPost W (innM c p.1 (symNo b.toNat - 4), p.2) bs) := by
  obtain ⟨gc, n, kc, g2, k2, rfl, hsn, hn, l1, l2, h1, h2⟩ := inn_cells hck hc hp.state (k := symNo b.toNat - 4) (by omega)
  obtain ⟨s, hs⟩ : ∃ s : Nat, p.1 = (s : Int) := ⟨p.1.toNat, by have := hp.state.1; omega⟩
  obtain ⟨st, xs⟩ := p
  dsimp only at hs hsn h1 h2 hE ⊢
  subst hs
  rw [Int.toNat_natCast] at hsn h1
  have hsym := fun W => spec_symbol (b.toNat : Int) W
  obtain ⟨q, hq⟩ : ∃ q, q = innM c (s : Int) (symNo b.toNat - 4) := ⟨_, rfl⟩
  rw [← hq] at h2 ⊢
  clear hq
  generalize symNo (b.toNat : Int) = k at hsym hk h2
  have Hsym := Lib.hid hsym
  have HE := Lib.hid hE
  obtain ⟨A, ca, rfl⟩ := RowE.slice hE
  have e5 := hbx.c5
  clear hsym hE hck hc hp hbx
  generalize (b.toNat : Int) = bb at Hsym ⊢
  rcases hk with rfl | rfl
  all_goals
    simp only [show ((4 : Int) - 4).toNat = 0 from rfl, show ((5 : Int) - 4).toNat = 1 from rfl] at h2
    go_enter Try.func150, Try.ntmps150
    go_wp2_with fail
    refine (Hsym.out _).mono ?_
    rintro e w' ⟨rfl, rfl⟩
    go_wp2
    go_ret2
    exact ⟨_, _, rfl, HE.out.zero, Below.refl _ _, fun b hb => .inl hb⟩

set_option maxHeartbeats 3200000 in
set_option maxRecDepth 100000 in
theorem step_empty {base' C : Nat} {p : Int × List Int} {b : UInt8} {vs : Value} {bs : List Nat} (W : World) (hck : CkE base W (.agg #[.int .i64 c.stack, .int .i64 c.start, va, vc, vr, vi]) c bsC) (hbx : Box6 W C (.int .i64 c.stack) (.int .i64 c.start) va vc vr vi) (hc : OkC c)
    (hp : StM c p) (hk : symNo b.toNat = 2 ∨ symNo b.toNat = 3) (hxs : p.2 = []) (hE : IntsE base' W vs p.2 bs) :
    Calls Try.prog 150 #[.pointer (some ⟨C, 0, none⟩), .int .i64 p.1, vs, .int .u8 b.toNat] W (StepPost W (retM c p.1 (symNo b.toNat - 2) c.stack, []) bs) := by
  obtain ⟨gc, n, kc, g2, k2, gm, nm, cm, rfl, hsn, hn, l1, l2, l3, h1, h2, hnm, hnm2, h3⟩ := ret_cells hck hc hp.state (k := symNo b.toNat - 2) (x := c.stack) (by omega) ⟨by have := hc.st1; omega, Int.le_refl _⟩
  obtain ⟨s, hs⟩ : ∃ s : Nat, p.1 = (s : Int) := ⟨p.1.toNat, by have := hp.state.1; omega⟩
  obtain ⟨st, xs⟩ := p
  dsimp only at hs hsn h1 h2 h3 hE hxs ⊢
  subst hs
  subst hxs
  rw [Int.toNat_natCast] at hsn h1
  have hsym := fun W => spec_symbol (b.toNat : Int) W
  obtain ⟨q, hq⟩ : ∃ q, q = retM c (s : Int) (symNo b.toNat - 2) c.stack := ⟨_, rfl⟩
  rw [← hq] at h3 ⊢
  clear hq
  generalize symNo (b.toNat : Int) = k at hsym hk h2
  have h0 := hc.st1
  obtain ⟨m, hm⟩ : ∃ m : Nat, c.stack = (m : Int) := ⟨c.stack.toNat, by omega⟩
  have hmn : m < nm := by omega
  rw [hm, Int.toNat_natCast] at h3
  have Hsym := Lib.hid hsym
  obtain ⟨A, ca, rfl⟩ := RowE.slice hE
  simp only [List.length_nil]
  have e0 := hbx.c0
  rw [hm] at e0
  have e4 := hbx.c4
  have lc := hbx.lt
  clear hsym hE hck hc hp hbx hm h0 hnm
  generalize (b.toNat : Int) = bb at Hsym ⊢
  have hA := fun o => (Below.refl W.heap.size W).alloc (Nat.le_refl _) o
  have a1 := fun o => ((hA o).cell (p := ⟨gc, s, none⟩) l1).trans h1
  have a2 := fun o => ((hA o).cell (p := ⟨g2, (k - 2).toNat, none⟩) l2).trans h2
  have a3 := fun o => ((hA o).cell (p := ⟨gm, m, none⟩) l3).trans h3
  have a4 := fun o => ((hA o).cell (p := ⟨C, 0, none⟩) lc).trans e0
  have a5 := fun o => ((hA o).cell (p := ⟨C, 4, none⟩) lc).trans e4
  have HA := Lib.hid hA
  have HN := Lib.hid (ints_new W).2
  clear hA
  rcases hk with rfl | rfl
  all_goals
    simp only [show ((2 : Int) - 2).toNat = 0 from rfl, show ((3 : Int) - 2).toNat = 1 from rfl] at h2 a2
    go_enter Try.func150, Try.ntmps150
    go_wp2_with fail
    refine (Hsym.out _).mono ?_
    rintro e w' ⟨rfl, rfl⟩
    go_wp2
    go_region
    all_goals
      go_wp2
      go_ret2
      exact ⟨_, [W.heap.size], rfl, ⟨row_base HN.out (Nat.zero_le _), rfl⟩, by first | exact HA.out _ | exact (HA.out _).drew, fun b hb => .inr (by rw [List.mem_singleton.1 hb]; exact Nat.le_refl _)⟩

set_option maxHeartbeats 6400000 in
set_option maxRecDepth 100000 in
theorem step_mark {base' C : Nat} {p : Int × List Int} {b : UInt8} {vs : Value} {bs : List Nat} {ys : List Int} {x : Int} (W : World) (hck : CkE base W (.agg #[.int .i64 c.stack, .int .i64 c.start, va, vc, vr, vi]) c bsC) (hbx : Box6 W C (.int .i64 c.stack) (.int .i64 c.start) va vc vr vi) (hc : OkC c)
    (hp : StM c p) (hl : p.2.length ≤ 200) (hk : symNo b.toNat = 2 ∨ symNo b.toNat = 3) (hxs : p.2 = ys ++ [x]) (hE : IntsE base' W vs p.2 bs) :
    Calls Try.prog 150 #[.pointer (some ⟨C, 0, none⟩), .int .i64 p.1, vs, .int .u8 b.toNat] W (StepPost W (retM c p.1 (symNo b.toNat - 2) x, ys) bs) := by
  have hx := hp.marks x (by rw [hxs]; simp)
  obtain ⟨gc, n, kc, g2, k2, gm, nm, cm, rfl, hsn, hn, l1, l2, l3, h1, h2, hnm, hnm2, h3⟩ := ret_cells hck hc hp.state (k := symNo b.toNat - 2) (x := x) (by omega) (by omega)
  obtain ⟨s, hs⟩ : ∃ s : Nat, p.1 = (s : Int) := ⟨p.1.toNat, by have := hp.state.1; omega⟩
  obtain ⟨st, xs⟩ := p
  dsimp only at hs hsn h1 h2 h3 hE hxs hl ⊢
  subst hs
  subst hxs
  rw [Int.toNat_natCast] at hsn h1
  have hsym := fun W => spec_symbol (b.toNat : Int) W
  obtain ⟨q, hq⟩ : ∃ q, q = retM c (s : Int) (symNo b.toNat - 2) x := ⟨_, rfl⟩
  rw [← hq] at h3 ⊢
  clear hq
  generalize symNo (b.toNat : Int) = k at hsym hk h2
  obtain ⟨m, rfl⟩ : ∃ m : Nat, x = (m : Int) := ⟨x.toNat, by omega⟩
  have hmn : m < nm := by omega
  rw [Int.toNat_natCast] at h3
  obtain ⟨A, ca, rfl⟩ := RowE.slice hE
  obtain ⟨gs, rfl, hgs, _⟩ := RowE.head hE (j := ys.length) (by simp)
  have hs3 := IntsE.cell' hE (show (ys ++ [(m : Int)])[ys.length]? = some (m : Int) by simp)
  rw [show (ys ++ [(m : Int)]).length = ys.length + 1 from by simp] at hE hl ⊢
  obtain ⟨hEp, hca, hcc⟩ := IntsE.pop hE
  rw [List.dropLast_concat] at hEp
  have hown := fun (W' : World) (hw : Below W.heap.size W W') => spec_own W' (show ys.length ≤ 1048576 by omega) ((ints_ok _).later hEp hw)
  have Hsym := Lib.hid hsym
  have Hown := Lib.hid hown
  unfold maxLen at hcc
  have e4 := hbx.c4
  have lc := hbx.lt
  clear hsym hown hE hEp hck hc hp hbx hnm hx
  generalize (b.toNat : Int) = bb at Hsym ⊢
  have a1 := fun (W' : World) (hw : Below W.heap.size W W') => (hw.cell (p := ⟨gc, s, none⟩) l1).trans h1
  have a2 := fun (W' : World) (hw : Below W.heap.size W W') => (hw.cell (p := ⟨g2, (k - 2).toNat, none⟩) l2).trans h2
  have a3 := fun (W' : World) (hw : Below W.heap.size W W') => (hw.cell (p := ⟨gm, m, none⟩) l3).trans h3
  have a5 := fun (W' : World) (hw : Below W.heap.size W W') => (hw.cell (p := ⟨C, 4, none⟩) lc).trans e4
  have a6 := fun (W' : World) (hw : Below W.heap.size W W') => (hw.cell (p := ⟨gs, ys.length, none⟩) hgs).trans hs3
  have HA := Lib.hid (And.intro a1 (And.intro a2 (And.intro a3 (And.intro a5 a6))))
  have hR := Below.refl W.heap.size W
  clear a1 a2 a3 a5 a6
  generalize ys.length = L at *
  have u1 : (0 : Int) ≤ (L : Int) := by omega
  have u2 : (L : Int) < ((L + 1 : Nat) : Int) := by omega
  have u2' : (L : Int) < (L : Int) + 1 := by omega
  have u3 : (L : Int) ≤ (ca : Int) := by omega
  have u4 : (0 : Int) ≤ (m : Int) := by omega
  have u5 : (m : Int) < (nm : Int) := by omega
  have u6 : (0 : Int) ≤ (s : Int) := by omega
  have u7 : (s : Int) < (n : Int) := by omega
  have v1 : IntKind.i64.wrap ((L : Int) + 1 - 1) = (L : Int) := by rw [show (L : Int) + 1 - 1 = L from by omega]; exact IntWalk.i64_in _ (by omega)
  have v2 : IntKind.i64.wrap (((L + 1 : Nat) : Int) - 1) = (L : Int) := by rw [show ((L + 1 : Nat) : Int) - 1 = L from by omega]; exact IntWalk.i64_in _ (by omega)
  have v3 : IntKind.i64.wrap (L : Int) = (L : Int) := IntWalk.i64_in _ (by omega)
  have v4 : IntKind.i64.wrap ((2 : Int) - 2) = 0 := rfl
  have v5 : IntKind.i64.wrap ((3 : Int) - 2) = 1 := rfl
  have v6 : IntKind.i64.wrap (0 : Int) = 0 := rfl
  have v7 : IntKind.i64.wrap (1 : Int) = 1 := rfl
  rcases hk with rfl | rfl
  · simp only [show ((2 : Int) - 2).toNat = 0 from rfl] at h2 HA
    go_enter Try.func150, Try.ntmps150
    go_wp2_with fail
    refine (Hsym.out _).mono ?_
    rintro e w' ⟨rfl, rfl⟩
    go_wp2
    go_region_held3 (fun w' => w'.cell? ⟨gc, s, none⟩ = some (.slice (some ⟨g2, 0, none⟩) 2 k2) ∧ w'.cell? ⟨g2, 0, none⟩ = some (.slice (some ⟨gm, 0, none⟩) nm cm) ∧ w'.cell? ⟨gm, m, none⟩ = some (.int .i64 q) ∧ w'.cell? ⟨C, 4, none⟩ = some (.slice (some ⟨gc, 0, none⟩) n kc) ∧ w'.cell? ⟨gs, L, none⟩ = some (.int .i64 (m : Int)))
      (first | exact ⟨h1, h2, h3, e4, hs3⟩ | exact ⟨HA.out.1 _ hw1, HA.out.2.1 _ hw1, HA.out.2.2.1 _ hw1, HA.out.2.2.2.1 _ hw1, HA.out.2.2.2.2 _ hw1⟩)
      (first
        | (go_at_call 176
           refine (Hown.out _ (by first | exact hR.drew | exact hR)).mono ?_
           rintro e w1 ⟨v1, bs1, rfl, hE1, hb1⟩
           have hw1 : Below W.heap.size W w1 := by first | exact hR.drew.trans (hb1.mono hR.drew.size) | exact hb1))
    all_goals
      go_wp2
      go_ret2
      exact ⟨_, _, rfl, hE1.zero, hw1, fun b hb => .inr ((ints_ok _).lt hE1 b hb).1⟩
  · simp only [show ((3 : Int) - 2).toNat = 1 from rfl] at h2 HA
    go_enter Try.func150, Try.ntmps150
    go_wp2_with fail
    refine (Hsym.out _).mono ?_
    rintro e w' ⟨rfl, rfl⟩
    go_wp2
    go_region_held3 (fun w' => w'.cell? ⟨gc, s, none⟩ = some (.slice (some ⟨g2, 0, none⟩) 2 k2) ∧ w'.cell? ⟨g2, 1, none⟩ = some (.slice (some ⟨gm, 0, none⟩) nm cm) ∧ w'.cell? ⟨gm, m, none⟩ = some (.int .i64 q) ∧ w'.cell? ⟨C, 4, none⟩ = some (.slice (some ⟨gc, 0, none⟩) n kc) ∧ w'.cell? ⟨gs, L, none⟩ = some (.int .i64 (m : Int)))
      (first | exact ⟨h1, h2, h3, e4, hs3⟩ | exact ⟨HA.out.1 _ hw1, HA.out.2.1 _ hw1, HA.out.2.2.1 _ hw1, HA.out.2.2.2.1 _ hw1, HA.out.2.2.2.2 _ hw1⟩)
      (first
        | (go_at_call 176
           refine (Hown.out _ (by first | exact hR.drew | exact hR)).mono ?_
           rintro e w1 ⟨v1, bs1, rfl, hE1, hb1⟩
           have hw1 : Below W.heap.size W w1 := by first | exact hR.drew.trans (hb1.mono hR.drew.size) | exact hb1))
    all_goals
      go_wp2
      go_ret2
      exact ⟨_, _, rfl, hE1.zero, hw1, fun b hb => .inr ((ints_ok _).lt hE1 b hb).1⟩

set_option maxHeartbeats 6400000 in
set_option maxRecDepth 100000 in
theorem step_call {base' C : Nat} {p : Int × List Int} {b : UInt8} {vs : Value} {bs : List Nat} (W : World) (hck : CkE base W (.agg #[.int .i64 c.stack, .int .i64 c.start, va, vc, vr, vi]) c bsC) (hbx : Box6 W C (.int .i64 c.stack) (.int .i64 c.start) va vc vr vi) (hc : OkC c)
    (hp : StM c p) (hl : p.2.length ≤ 200) (hk : symNo b.toNat = 0 ∨ symNo b.toNat = 1) (hE : IntsE base' W vs p.2 bs) :
    Calls Try.prog 150 #[.pointer (some ⟨C, 0, none⟩), .int .i64 p.1, vs, .int .u8 b.toNat] W (StepPost W ((callM c p.1 (symNo b.toNat)).1, p.2 ++ [(callM c p.1 (symNo b.toNat)).2]) bs) := by
  obtain ⟨i0, hi, hz0, hz1, hz2⟩ := info_parts toInfo_i64
  obtain ⟨gc, n, kc, g2, k2, rfl, hsn, hn, l1, l2, h1, h2, h3⟩ := call_cells hck hc hp.state hk
  obtain ⟨s, hs⟩ : ∃ s : Nat, p.1 = (s : Int) := ⟨p.1.toNat, by have := hp.state.1; omega⟩
  obtain ⟨st, xs⟩ := p
  dsimp only at hs hsn h1 h2 h3 hE hl ⊢
  subst hs
  rw [Int.toNat_natCast] at hsn h1
  have hsym := fun W => spec_symbol (b.toNat : Int) W
  obtain ⟨q, hq⟩ : ∃ q, q = callM c (s : Int) (symNo b.toNat) := ⟨_, rfl⟩
  rw [← hq] at h2 h3 ⊢
  clear hq
  obtain ⟨q1, q2⟩ := q
  dsimp only at h2 h3 ⊢
  generalize symNo (b.toNat : Int) = k at hsym hk h2 h3
  have hown := fun (W' : World) (hw : Below W.heap.size W W') => spec_own W' (show xs.length ≤ 1048576 by omega) ((ints_ok _).later hE hw)
  have Hsym := Lib.hid hsym
  have Hown := Lib.hid hown
  obtain ⟨A, ca, rfl⟩ := RowE.slice hE
  have e3 := hbx.c3
  clear hsym hown hE hck hc hp hbx
  generalize (b.toNat : Int) = bb at Hsym ⊢
  have hone : ∀ u ∈ [Value.int .i64 q2], u.oneCell' = true := by intro u hu; rw [List.mem_singleton.1 hu]; rfl
  have Hone := Lib.hid hone
  have hM := Bx.new W 131 #[.int .i64 q1, .int .i64 q2]
  have hB := (Below.refl W.heap.size W).alloc (Nat.le_refl _) (.cells #[.int .i64 q1, .int .i64 q2] 131)
  have HM := Lib.hid (And.intro hM hB)
  clear hone hM hB
  rcases hk with rfl | rfl
  · simp only [show (0 : Int).toNat = 0 from rfl, Nat.zero_mul, Nat.zero_add] at h2 h3
    go_enter Try.func150, Try.ntmps150
    go_wp2_with fail
    refine (Hsym.out _).mono ?_
    rintro e w' ⟨rfl, rfl⟩
    go_wp2
    obtain ⟨hM, hB⟩ := HM.out
    generalize W.alloc (.cells #[.int .i64 q1, .int .i64 q2] 131) = Wp at *
    have m0 : Wp.cell? ⟨W.heap.size, 0, none⟩ = some (.int .i64 q1) := hM.cell 0 _ rfl
    have m1 : Wp.cell? ⟨W.heap.size, 1, none⟩ = some (.int .i64 q2) := hM.cell 1 _ rfl
    have hlt := hM.lt
    have hz := hB.size
    have hR := Below.refl Wp.heap.size Wp
    have hR2 := fun o => (Below.refl Wp.heap.size Wp).alloc (Nat.le_refl _) o
    generalize hMe : W.heap.size = M at *
    have HMe := Lib.hid hMe
    clear hMe
    have nm : ∀ o, (Wp.alloc o).cell? ⟨M, 0, none⟩ = some (.int .i64 q1) ∧ (Wp.alloc o).cell? ⟨M, 1, none⟩ = some (.int .i64 q2) := fun o => ⟨(hM.alloc o).cell 0 _ rfl, (hM.alloc o).cell 1 _ rfl⟩
    have HM2 := Lib.hid (fun (W' : World) (hw : Below Wp.heap.size Wp W') => (And.intro ((hM.later hw).cell 0 _ rfl) ((hM.later hw).cell 1 _ rfl) : W'.cell? ⟨M, 0, none⟩ = some (.int .i64 q1) ∧ W'.cell? ⟨M, 1, none⟩ = some (.int .i64 q2)))
    have HR := Lib.hid (And.intro hR (And.intro hR2 (And.intro nm hM)))
    clear hM hR hR2 nm
    go_region_held3 (fun w' => w'.cell? ⟨M, 0, none⟩ = some (.int .i64 q1) ∧ w'.cell? ⟨M, 1, none⟩ = some (.int .i64 q2))
      (first | exact ⟨m0, m1⟩ | exact HR.out.2.2.1 _ | exact HM2.out _ hw3 | exact HM2.out _ hw1 | exact HM2.out _ (hw1.alloc hw1.size _))
      (first
        | (refine step_append_lies _ (by rfl) _ _ _ (by rfl) 0 2 i0 _ 1 8 Try.underlying48 hi hz0 hz1 hz2 rfl (by decide) v1 xs.length _ (by rfl) (hE1.zero.1.alloc _) ⟨w1.heap.size, 0, none⟩ 1 1 [.int .i64 q2] (by rfl) (by rfl) (World.news_of_block (Bx.new w1 _ _)) Hone.out (by decide) (by unfold maxLen; omega) (by omega) (Nat.zero_le _) _ rfl ?_
           intro g cap w2 hown1 hg hat hltg
           have hw3 : Below Wp.heap.size Wp w2 := (hw1.alloc hw1.size _).grown hg (by simp; have := hw1.size; omega) hv1
           have hgl : M ≤ g := by
             rcases hat with h | h
             · have := hv1 g h
               omega
             · have := hw1.size
               simp at h
               omega)
        | (refine step_append_lies _ (by rfl) _ _ _ (by rfl) 0 2 i0 _ 1 8 Try.underlying48 hi hz0 hz1 hz2 rfl (by decide) v1 xs.length _ (by rfl) hE1.zero.1 ⟨Wp.heap.size, 0, none⟩ 1 1 [.int .i64 q2] (by rfl) (by rfl) (World.news_of_block hnB) Hone.out (by decide) (by unfold maxLen; omega) (by omega) (Nat.zero_le _) _ rfl ?_
           intro g cap w2 hown1 hg hat hltg
           have hw3 : Below Wp.heap.size Wp w2 := hw1.grown hg hw1.size hv1
           have hgl : M ≤ g := by
             rcases hat with h | h
             · have := hv1 g h
               omega
             · have := hw1.size
               omega)
        | (go_at_call 176
           refine (Hown.out _ ?_).mono ?_
           first | exact hB | exact hB.drew | exact hB.alloc hz _ | exact (hB.alloc hz _).drew | exact hB.drew.alloc hz _
           rintro e w1 ⟨v1, bs1, rfl, hE1, hb1⟩
           have hw1 : Below Wp.heap.size Wp w1 := by first | exact hb1 | exact HR.out.1.drew.trans (hb1.mono HR.out.1.drew.size) | exact (HR.out.2.1 _).trans (hb1.mono (HR.out.2.1 _).size) | exact (HR.out.2.1 _).drew.trans (hb1.mono (HR.out.2.1 _).drew.size)
           have hv1 : ∀ k, v1.ownBlock = some k → Wp.heap.size ≤ k := fun k hk => by
             have := ((ints_ok _).lt hE1 k (by rw [hE1.2, hk]; simp)).1
             simp at this
             omega
           first | (have hnB := (hb1.block Wp.heap.size (by simp)).trans (Bx.new Wp _ _)) | skip))
    all_goals
      go_wp2
      go_ret2
      exact ⟨_, [g], rfl, ⟨by simpa using hown1, rfl⟩, by rw [HMe.out]; exact hB.trans (hw3.mono hz), fun b hb => .inr (by rw [List.mem_singleton.1 hb, HMe.out]; exact hgl)⟩
  · simp only [show (1 : Int).toNat = 1 from rfl, Nat.one_mul] at h2 h3
    go_enter Try.func150, Try.ntmps150
    go_wp2_with fail
    refine (Hsym.out _).mono ?_
    rintro e w' ⟨rfl, rfl⟩
    go_wp2
    obtain ⟨hM, hB⟩ := HM.out
    generalize W.alloc (.cells #[.int .i64 q1, .int .i64 q2] 131) = Wp at *
    have m0 : Wp.cell? ⟨W.heap.size, 0, none⟩ = some (.int .i64 q1) := hM.cell 0 _ rfl
    have m1 : Wp.cell? ⟨W.heap.size, 1, none⟩ = some (.int .i64 q2) := hM.cell 1 _ rfl
    have hlt := hM.lt
    have hz := hB.size
    have hR := Below.refl Wp.heap.size Wp
    have hR2 := fun o => (Below.refl Wp.heap.size Wp).alloc (Nat.le_refl _) o
    generalize hMe : W.heap.size = M at *
    have HMe := Lib.hid hMe
    clear hMe
    have nm : ∀ o, (Wp.alloc o).cell? ⟨M, 0, none⟩ = some (.int .i64 q1) ∧ (Wp.alloc o).cell? ⟨M, 1, none⟩ = some (.int .i64 q2) := fun o => ⟨(hM.alloc o).cell 0 _ rfl, (hM.alloc o).cell 1 _ rfl⟩
    have HM2 := Lib.hid (fun (W' : World) (hw : Below Wp.heap.size Wp W') => (And.intro ((hM.later hw).cell 0 _ rfl) ((hM.later hw).cell 1 _ rfl) : W'.cell? ⟨M, 0, none⟩ = some (.int .i64 q1) ∧ W'.cell? ⟨M, 1, none⟩ = some (.int .i64 q2)))
    have HR := Lib.hid (And.intro hR (And.intro hR2 (And.intro nm hM)))
    clear hM hR hR2 nm
    go_region_held3 (fun w' => w'.cell? ⟨M, 0, none⟩ = some (.int .i64 q1) ∧ w'.cell? ⟨M, 1, none⟩ = some (.int .i64 q2))
      (first | exact ⟨m0, m1⟩ | exact HR.out.2.2.1 _ | exact HM2.out _ hw3 | exact HM2.out _ hw1 | exact HM2.out _ (hw1.alloc hw1.size _))
      (first
        | (refine step_append_lies _ (by rfl) _ _ _ (by rfl) 0 2 i0 _ 1 8 Try.underlying48 hi hz0 hz1 hz2 rfl (by decide) v1 xs.length _ (by rfl) (hE1.zero.1.alloc _) ⟨w1.heap.size, 0, none⟩ 1 1 [.int .i64 q2] (by rfl) (by rfl) (World.news_of_block (Bx.new w1 _ _)) Hone.out (by decide) (by unfold maxLen; omega) (by omega) (Nat.zero_le _) _ rfl ?_
           intro g cap w2 hown1 hg hat hltg
           have hw3 : Below Wp.heap.size Wp w2 := (hw1.alloc hw1.size _).grown hg (by simp; have := hw1.size; omega) hv1
           have hgl : M ≤ g := by
             rcases hat with h | h
             · have := hv1 g h
               omega
             · have := hw1.size
               simp at h
               omega)
        | (refine step_append_lies _ (by rfl) _ _ _ (by rfl) 0 2 i0 _ 1 8 Try.underlying48 hi hz0 hz1 hz2 rfl (by decide) v1 xs.length _ (by rfl) hE1.zero.1 ⟨Wp.heap.size, 0, none⟩ 1 1 [.int .i64 q2] (by rfl) (by rfl) (World.news_of_block hnB) Hone.out (by decide) (by unfold maxLen; omega) (by omega) (Nat.zero_le _) _ rfl ?_
           intro g cap w2 hown1 hg hat hltg
           have hw3 : Below Wp.heap.size Wp w2 := hw1.grown hg hw1.size hv1
           have hgl : M ≤ g := by
             rcases hat with h | h
             · have := hv1 g h
               omega
             · have := hw1.size
               omega)
        | (go_at_call 176
           refine (Hown.out _ ?_).mono ?_
           first | exact hB | exact hB.drew | exact hB.alloc hz _ | exact (hB.alloc hz _).drew | exact hB.drew.alloc hz _
           rintro e w1 ⟨v1, bs1, rfl, hE1, hb1⟩
           have hw1 : Below Wp.heap.size Wp w1 := by first | exact hb1 | exact HR.out.1.drew.trans (hb1.mono HR.out.1.drew.size) | exact (HR.out.2.1 _).trans (hb1.mono (HR.out.2.1 _).size) | exact (HR.out.2.1 _).drew.trans (hb1.mono (HR.out.2.1 _).drew.size)
           have hv1 : ∀ k, v1.ownBlock = some k → Wp.heap.size ≤ k := fun k hk => by
             have := ((ints_ok _).lt hE1 k (by rw [hE1.2, hk]; simp)).1
             simp at this
             omega
           first | (have hnB := (hb1.block Wp.heap.size (by simp)).trans (Bx.new Wp _ _)) | skip))
    all_goals
      go_wp2
      go_ret2
      exact ⟨_, [g], rfl, ⟨by simpa using hown1, rfl⟩, by rw [HMe.out]; exact hB.trans (hw3.mono hz), fun b hb => .inr (by rw [List.mem_singleton.1 hb, HMe.out]; exact hgl)⟩

/-- One step of the model. -/
theorem spec_step {base' C : Nat} {p : Int × List Int} {b : UInt8} {vs : Value} {bs : List Nat} (W : World) (hck : CkE base W (.agg #[.int .i64 c.stack, .int .i64 c.start, va, vc, vr, vi]) c bsC) (hbx : Box6 W C (.int .i64 c.stack) (.int .i64 c.start) va vc vr vi) (hc : OkC c)
    (hp : StM c p) (hl : p.2.length ≤ 200) (hk : 0 ≤ symNo b.toNat) (hE : IntsE base' W vs p.2 bs) :
    Calls Try.prog 150 #[.pointer (some ⟨C, 0, none⟩), .int .i64 p.1, vs, .int .u8 b.toNat] W (StepPost W (stepM c p (symNo b.toNat)) bs) := by
  have h5 := symNo_le (b.toNat : Int)
  unfold stepM
  by_cases h1 : symNo (b.toNat : Int) ≤ 1
  · rw [if_pos h1]
    exact step_call W hck hbx hc hp hl (by omega) hE
  rw [if_neg h1]
  by_cases h3 : symNo (b.toNat : Int) ≤ 3
  · rw [if_pos h3]
    cases hg : p.2.getLast? with
    | none => exact step_empty W hck hbx hc hp (by omega) (List.getLast?_eq_none_iff.1 hg) hE
    | some x =>
      have hne : p.2 ≠ [] := by intro e; rw [e] at hg; cases hg
      have e : p.2 = p.2.dropLast ++ [x] := by
        rw [List.getLast?_eq_some_getLast hne] at hg
        injection hg with hg
        rw [← hg]
        exact (List.dropLast_concat_getLast hne).symm
      exact step_mark W hck hbx hc hp hl (by omega) e hE
  · rw [if_neg h3]
    exact step_inn W hck hbx hc hp (by omega) hE
end
end Go.Proofs.Ytcboalnpbmnfcaa
