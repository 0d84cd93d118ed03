/- One step of a run of the program. -/
import Derived.Test.YtcboalnpbmnfcaaStepI
import Derived.Test.YtcboalnpbmnfcaaStepS
import Derived.Deep.DeepCutAuto
import Derived.Deep.RegionWith
import Derived.Laws.OwnMore
namespace Go.Proofs.Ytcboalnpbmnfcaa
open Go.RowKit
set_option linter.unusedVariables false

theorem RowE.off_bx {α : Type} {base : Nat} {e t : TypeId} {size : Nat} {enc : α → List Value} {w : World} {v : Value} {xs : List α} {bs : List Nat} {B : Nat} {cs : Array Value}
    (h : RowE base e size enc w v xs bs) (hb : Bx w B t cs) (hne : e ≠ t) : ∀ b ∈ bs, b ≠ B := by
  obtain ⟨h, rfl⟩ := h
  rcases h.2 with ⟨rfl, _⟩ | ⟨g, cap, cur, rfl, _, hg, _⟩
  · intro b hm; simp [Value.ownBlock] at hm
  · intro b hm e'
    have h1 : b = g := by simpa [Value.ownBlock, eq_comm] using hm
    subst h1
    subst e'
    have h2 := hg.symm.trans hb
    injection h2 with h2
    injection h2 with _ ht _
    exact hne ht
/-- Without the last one. -/
theorem IntsE.pop {base g n c : Nat} {w : World} {xs : List Int} {bs : List Nat} (h : IntsE base w (.slice (some ⟨g, 0, none⟩) (n + 1) c) xs bs) : IntsE base w (.slice (some ⟨g, 0, none⟩) n c) xs.dropLast bs ∧ n + 1 ≤ c ∧ c ≤ maxLen := by
  have hl := RowE.len_ h
  obtain ⟨h, rfl⟩ := h
  rw [← hl] at h
  refine ⟨⟨?_, rfl⟩, ?_⟩
  · rw [List.length_dropLast, ← hl, Nat.add_sub_cancel]
    rcases h.2 with ⟨h0, _⟩ | ⟨g', cap, cur, hv, hb, hg, hnc, hm, hs, hx⟩
    · cases h0
    · simp only [Value.slice.injEq, Option.some.injEq] at hv
      obtain ⟨hgg, _, rfl⟩ := hv
      refine ⟨by rw [ints_flat, List.length_map, List.length_dropLast]; omega, .inr ⟨g', c, cur, by rw [hgg], hb, hg, by omega, hm, hs, ?_⟩⟩
      rw [ints_flat] at hx ⊢
      rw [List.map_dropLast, ← hx, List.dropLast_eq_take, List.take_take]
      congr 1
      simp only [List.length_take, Array.length_toList, hs]
      omega
  · rcases h.2 with ⟨h0, _⟩ | ⟨g', cap, cur, hv, hb, hg, hnc, hm, hs, hx⟩
    · cases h0
    · simp only [Value.slice.injEq, Option.some.injEq] at hv
      obtain ⟨_, _, rfl⟩ := hv
      exact ⟨hnc, hm⟩

/-- A run in memory: w0 is the world ahead of it, B its box. -/
def RunAt (w0 : World) (B : Nat) (c : Ck) (va vc vr vi : Value) (p : Int × List Int) (W : World) : Prop :=
  ∃ vs bs, Bx W B 192 #[.int .i64 c.stack, .int .i64 c.start, va, vc, vr, vi, .int .i64 p.1, vs] ∧ IntsE w0.heap.size W vs p.2 bs ∧ Below w0.heap.size w0 W ∧ w0.heap.size ≤ B

section
variable {base : Nat} {va vc vr vi : Value} {c : Ck} {bsC : List Nat} {w0 : World}
/-- What a run finds at a call, in whatever world behind w0. -/
theorem call_cells (hck : CkE base w0 (.agg #[.int .i64 c.stack, .int .i64 c.start, va, vc, vr, vi]) c bsC) (hc : OkC c) {s k : Int} (hs : 0 ≤ s ∧ s < c.accept.length) (hk : k = 0 ∨ k = 1) :
    ∃ gc n kc g2 k2, vc = .slice (some ⟨gc, 0, none⟩) n kc ∧ s.toNat < n ∧ n ≤ 1048576 ∧ gc < w0.heap.size ∧ g2 < w0.heap.size ∧ w0.cell? ⟨gc, s.toNat, none⟩ = some (.slice (some ⟨g2, 0, none⟩) 2 k2) ∧
      w0.cell? ⟨g2, k.toNat * 2, none⟩ = some (.int .i64 (callM c s k).1) ∧ w0.cell? ⟨g2, k.toNat * 2 + 1, none⟩ = some (.int .i64 (callM c s k).2) := by
  obtain ⟨_, _, _, _, b1, b2, b3, b4, hv, h1, h2, h3, h4, _, _⟩ := hck
  simp only [Value.agg.injEq, Array.mk.injEq, List.cons.injEq, and_true, true_and] at hv
  obtain ⟨rfl, rfl, rfl, rfl⟩ := hv
  obtain ⟨row, hr, hl, hx, _, _⟩ := hc.callAt hs hk
  obtain ⟨g, cc, u, cs, hv, hcell, hE, hg, _⟩ := h2.at_ (push_ok _) hr
  obtain ⟨A2, k2, rfl⟩ := RowE.slice hE
  obtain ⟨g2, rfl, hg2, _⟩ := RowE.head hE (List.getElem?_eq_some_iff.1 hx).1
  have hcs := PushE.cell' hE hx
  have hn := (List.getElem?_eq_some_iff.1 hr).1
  rw [hl] at hcell
  exact ⟨g, _, cc, g2, k2, hv, hn, by have := hc.n2; have := hc.lc; omega, hg, hg2, hcell, hcs.1, hcs.2⟩
theorem ret_cells (hck : CkE base w0 (.agg #[.int .i64 c.stack, .int .i64 c.start, va, vc, vr, vi]) c bsC) (hc : OkC c) {s k x : Int} (hs : 0 ≤ s ∧ s < c.accept.length) (hk : k = 0 ∨ k = 1) (hx : 0 ≤ x ∧ x ≤ c.stack) :
    ∃ gc n kc g2 k2 gm nm cm, vr = .slice (some ⟨gc, 0, none⟩) n kc ∧ s.toNat < n ∧ n ≤ 1048576 ∧ gc < w0.heap.size ∧ g2 < w0.heap.size ∧ gm < w0.heap.size ∧ w0.cell? ⟨gc, s.toNat, none⟩ = some (.slice (some ⟨g2, 0, none⟩) 2 k2) ∧
      w0.cell? ⟨g2, k.toNat, none⟩ = some (.slice (some ⟨gm, 0, none⟩) nm cm) ∧ (nm : Int) = c.stack + 1 ∧ nm ≤ 1048576 ∧ w0.cell? ⟨gm, x.toNat, none⟩ = some (.int .i64 (retM c s k x)) := by
  obtain ⟨_, _, _, _, b1, b2, b3, b4, hv, h1, h2, h3, h4, _, _⟩ := hck
  simp only [Value.agg.injEq, Array.mk.injEq, List.cons.injEq, and_true, true_and] at hv
  obtain ⟨rfl, rfl, rfl, rfl⟩ := hv
  obtain ⟨rows, row, hr, hl, hr2, hl2, hx2, _, _⟩ := hc.retAt hs hk hx
  obtain ⟨g, cc, u, cs, hv, hcell, hE, hg, _⟩ := h3.at_ (ints2_ok _) hr
  obtain ⟨g2, cc2, u2, cs2, hv2, hcell2, hE2, hg2, _⟩ := hE.at_ (ints_ok _) hr2
  obtain ⟨A2, k2, rfl⟩ := RowE.slice hE2
  obtain ⟨gm, rfl, hgm, _⟩ := RowE.head hE2 (List.getElem?_eq_some_iff.1 hx2).1
  have hcs := IntsE.cell' hE2 hx2
  have hn := (List.getElem?_eq_some_iff.1 hr).1
  rw [hv2, hl] at hcell
  have h0 := hc.st1
  have h8 := hc.st2
  exact ⟨g, _, cc, g2, cc2, gm, row.length, k2, hv, hn, by have := hc.n2; have := hc.lr; omega, hg, hg2, hgm, hcell, hcell2, by omega, by omega, hcs⟩
theorem inn_cells (hck : CkE base w0 (.agg #[.int .i64 c.stack, .int .i64 c.start, va, vc, vr, vi]) c bsC) (hc : OkC c) {s k : Int} (hs : 0 ≤ s ∧ s < c.accept.length) (hk : k = 0 ∨ k = 1) :
    ∃ gc n kc g2 k2, vi = .slice (some ⟨gc, 0, none⟩) n kc ∧ s.toNat < n ∧ n ≤ 1048576 ∧ gc < w0.heap.size ∧ g2 < w0.heap.size ∧ w0.cell? ⟨gc, s.toNat, none⟩ = some (.slice (some ⟨g2, 0, none⟩) 2 k2) ∧
      w0.cell? ⟨g2, k.toNat, none⟩ = some (.int .i64 (innM c s k)) := by
  obtain ⟨_, _, _, _, b1, b2, b3, b4, hv, h1, h2, h3, h4, _, _⟩ := hck
  simp only [Value.agg.injEq, Array.mk.injEq, List.cons.injEq, and_true, true_and] at hv
  obtain ⟨rfl, rfl, rfl, rfl⟩ := hv
  obtain ⟨row, hr, hl, hx, _, _⟩ := hc.innAt hs hk
  obtain ⟨g, cc, u, cs, hv, hcell, hE, hg, _⟩ := h4.at_ (ints_ok _) hr
  obtain ⟨A2, k2, rfl⟩ := RowE.slice hE
  obtain ⟨g2, rfl, hg2, _⟩ := RowE.head hE (List.getElem?_eq_some_iff.1 hx).1
  have hcs := IntsE.cell' hE hx
  have hn := (List.getElem?_eq_some_iff.1 hr).1
  rw [hl] at hcell
  exact ⟨g, _, cc, g2, k2, hv, hn, by have := hc.n2; have := hc.li; omega, hg, hg2, hcell, hcs⟩
end
end Go.Proofs.Ytcboalnpbmnfcaa
