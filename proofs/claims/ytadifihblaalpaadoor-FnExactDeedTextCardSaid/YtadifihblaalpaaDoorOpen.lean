/- Arguments opened: what a laws.Checker that came in reads as. -/
import Derived.Test.YtadifihblaalpaaDoorTo
import Derived.Test.YtadifihblaalpaaDoorChk
import Derived.Deep.Slices
import Derived.Deep.Fields
import Derived.Lib.SmallJoins
namespace Go.Proofs.YtadifihblaalpaaDoor
open Go.RowKit Go.ChangeShapes Go.WideShapes Go.Deep
set_option linter.unusedVariables false

section
variable {H : Type} {enc : TypeId × Value → H} {P : Program} {w : World} {base : Nat} {held : Bool}
theorem open_row {α : Type} [Inhabited α] {t e : TypeId} {size : Nat} {en : α → List Value} {wf : α → Prop} (ht : P.underlying t = some (.slice e)) (hc : P.cellsOf e = size)
    (elem : ∀ (n : Nat) (cs : List Value) (x : DataW H × List MemPlace), DataW.trod enc P w base (fun _ => true) held n e cs = some x → ∃ y : α, cs = en y ∧ wf y) {fuel : Nat} {v : Value} {x : DataW H × List MemPlace}
    (h : DataW.trod enc P w base (fun _ => true) held fuel t [v] = some x) : ∃ xs : List α, RowR size en w v xs ∧ ∀ y ∈ xs, wf y := by
  rcases open_slice ht h with ⟨h0, _⟩ | ⟨a, len, cap, m, n, D, Pl, hcs, hb, hl, hm, hmm, hx, hi⟩
  · simp only [List.cons.injEq, and_true] at h0
    exact ⟨[], ⟨none, 0, h0, Nat.zero_le _, fun j x i u hj => by simp at hj⟩, fun y hy => by cases hy⟩
  · simp only [if_true] at hmm
    simp only [List.cons.injEq, and_true] at hcs
    have each : ∀ i, i < len → ∃ y : α, (∀ k u, (en y)[k]? = some u → w.cell? ((a.add (i * size)).add k) = some u) ∧ wf y := fun i him => by
      obtain ⟨cs', h1, h2⟩ := hi i (by omega)
      rw [hc] at h1
      obtain ⟨_, hlen, hat⟩ := World.cells?_some h1
      obtain ⟨y, rfl, hw⟩ := elem n _ _ h2
      exact ⟨y, fun k u hu => (hat k (by rw [← hlen]; exact (List.getElem?_eq_some_iff.1 hu).1)).trans hu, hw⟩
    obtain ⟨f, hf⟩ := choose_lt each
    refine ⟨(List.range len).map f, ⟨some a, cap, by rw [hcs]; simp, by simp; omega, fun j x i u hj hu => ?_⟩, fun y hy => ?_⟩
    · have hjl := (List.getElem?_eq_some_iff.1 hj).1
      simp at hjl
      rw [List.getElem?_map, List.getElem?_range hjl] at hj
      cases hj
      have := (hf j hjl).1 i u hu
      have hbl := World.block_lt_of_cell? w _ this
      rw [add_block, add_block] at hbl
      exact ⟨a, rfl, hbl, this⟩
    · obtain ⟨i, hi, rfl⟩ := List.mem_map.1 hy
      exact (hf i (List.mem_range.1 hi)).2
theorem open_many {α : Type} [Inhabited α] {t e : TypeId} {R : RP α} {wf : α → Prop} (ht : P.underlying t = some (.slice e)) (hc : P.cellsOf e = 1)
    (elem : ∀ (n : Nat) (v : Value) (x : DataW H × List MemPlace), DataW.trod enc P w base (fun _ => true) held n e [v] = some x → ∃ y : α, R w v y ∧ wf y) {fuel : Nat} {v : Value} {x : DataW H × List MemPlace}
    (h : DataW.trod enc P w base (fun _ => true) held fuel t [v] = some x) : ∃ xs : List α, ManyR R w v xs ∧ ∀ y ∈ xs, wf y := by
  rcases open_slice1 ht hc h with ⟨h0, _⟩ | ⟨a, len, cap, m, n, V, D, Pl, hcs, hb, hl, hm, hmm, hx, hi⟩
  · simp only [List.cons.injEq, and_true] at h0
    exact ⟨[], ⟨none, 0, h0, Nat.zero_le _, fun j x hj => by simp at hj⟩, fun y hy => by cases hy⟩
  · simp only [if_true] at hmm
    simp only [List.cons.injEq, and_true] at hcs
    have each : ∀ i, i < len → ∃ y : α, R w (V i) y ∧ wf y := fun i him => elem n _ _ (hi i (by omega)).2
    obtain ⟨f, hf⟩ := choose_lt each
    refine ⟨(List.range len).map f, ⟨some a, cap, by rw [hcs]; simp, by simp; omega, fun j x hj => ?_⟩, fun y hy => ?_⟩
    · have hjl := (List.getElem?_eq_some_iff.1 hj).1
      simp at hjl
      rw [List.getElem?_map, List.getElem?_range hjl] at hj
      cases hj
      have := (hi j (by omega)).1
      have hbl := World.block_lt_of_cell? w _ this
      rw [add_block] at hbl
      exact ⟨a, V j, rfl, hbl, this, (hf j hjl).1⟩
    · obtain ⟨i, hi, rfl⟩ := List.mem_map.1 hy
      exact (hf i (List.mem_range.1 hi)).2
end

def I64 (n : Int) : Prop := (Lit.int .i64 n).wf = true
section
variable {H : Type} {enc : TypeId × Value → H} {w : World} {held : Bool}
theorem read_int {n : Nat} {cs : List Value} {x : DataW H × List MemPlace} (h : DataW.trod enc Tryd.prog w 0 (fun _ => true) held n 2 cs = some x) : ∃ y : Int, cs = [.int .i64 y] ∧ I64 y := by
  obtain ⟨y, rfl, _, hw⟩ := DataW.trod_int Tryd.underlying2 h
  exact ⟨y, rfl, hw⟩
theorem read_bool {n : Nat} {cs : List Value} {x : DataW H × List MemPlace} (h : DataW.trod enc Tryd.prog w 0 (fun _ => true) held n 4 cs = some x) : ∃ y : Bool, cs = [.bool y] ∧ True := by
  obtain ⟨y, rfl, _⟩ := DataW.trod_bool Tryd.underlying4 h
  exact ⟨y, rfl, trivial⟩
end

theorem cells_i64 : Tryd.prog.cellsOf 2 = 1 := by kernel_rfl
theorem cells_bool : Tryd.prog.cellsOf 4 = 1 := by kernel_rfl
theorem cells_ints : Tryd.prog.cellsOf 38 = 1 := by kernel_rfl
section
variable {H : Type} {enc : TypeId × Value → H} {w : World} {held : Bool}
def WfI (xs : List Int) : Prop := ∀ y ∈ xs, I64 y
def WfP (xs : List (Int × Int)) : Prop := ∀ y ∈ xs, I64 y.1 ∧ I64 y.2
structure WfC (c : Ck) : Prop where
  stack : I64 c.stack
  start : I64 c.start
  call : ∀ x ∈ c.call, WfP x
  ret : ∀ x ∈ c.ret, ∀ y ∈ x, WfI y
  inner : ∀ x ∈ c.inner, WfI x

/-- A laws.Checker that came in. -/
def CkR : RP Ck := fun w v c => ∃ va vc vr vi, v = .agg #[.int .i64 c.stack, .int .i64 c.start, va, vc, vr, vi] ∧ BoolsR w va c.accept ∧ Push2R w vc c.call ∧ Ints3R w vr c.ret ∧ Ints2R w vi c.inner
theorem ck_r : RP.Ok CkR where
  later := by
    rintro w w' v c ⟨va, vc, vr, vi, rfl, h1, h2, h3, h4⟩ hb
    exact ⟨va, vc, vr, vi, rfl, bools_r.later h1 hb, pushes2_r.later h2 hb, ints3_r.later h3 hb, ints2_r.later h4 hb⟩

theorem read_ints {n : Nat} {v : Value} {x : DataW H × List MemPlace} (h : DataW.trod enc Tryd.prog w 0 (fun _ => true) held n 38 [v] = some x) : ∃ y, IntsR w v y ∧ WfI y :=
  open_row Tryd.underlying38 cells_i64 (fun _ _ _ h => read_int h) h
end
end Go.Proofs.YtadifihblaalpaaDoor
