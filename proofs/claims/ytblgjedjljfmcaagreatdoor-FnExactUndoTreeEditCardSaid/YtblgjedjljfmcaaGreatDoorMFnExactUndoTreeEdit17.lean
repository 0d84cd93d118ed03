import Derived.Test.YtblgjedjljfmcaaGreatDoorMFnExactUndoTreeEdit16
import Derived.Test.YtblgjedjljfmcaaGreatDoorMFnExactUndoTreeEdit15
import Derived.Deep.Slices
import Derived.Deep.Fields
import Derived.Lib.SmallJoins
import Derived.Test.YtblgjedjljfmcaaGreatDoorMFnExactUndoTreeEdit8
/- Arguments opened: what a laws.Checker that came in reads as. -/
namespace Go.Proofs.YtblgjedjljfmcaaGreatDoor
open Go.RowKit Go.ChangeShapes Go.WideShapes Go.Deep
set_option linter.unusedVariables false

section
variable {H : Type} {enc : TypeId × Value → H} {P : Program} {w : World} {base : Nat} {held : Bool}
theorem open_row {α : Type} [Inhabited α] {t e : TypeId} {size : Nat} {en : α → List Value} {wf : α → Prop} (ht : P.underlying t = some (.slice e)) (hc : P.cellsOf e = size)
    (elem : ∀ (n : Nat) (cs : List Value) (x : DataW H × List MemPlace), DataW.trod enc P w base (fun _ => true) held n e cs = some x → ∃ y : α, cs = en y ∧ wf y) {fuel : Nat} {v : Value} {x : DataW H × List MemPlace}
    (h : DataW.trod enc P w base (fun _ => true) held fuel t [v] = some x) : ∃ xs : List α, RowR size en w v xs ∧ ∀ y ∈ xs, wf y := by
  rcases open_slice ht h with ⟨h0, _⟩ | ⟨a, len, cap, m, n, D, Pl, hcs, hb, hl, hm, hmm, hx, hi⟩
  · simp only [List.cons.injEq, and_true] at h0
    exact ⟨[], ⟨none, 0, h0, Nat.zero_le _, fun j x i u hj => by simp at hj⟩, fun y hy => by cases hy⟩
  · simp only [if_true] at hmm
    simp only [List.cons.injEq, and_true] at hcs
    have each : ∀ i, i < len → ∃ y : α, (∀ k u, (en y)[k]? = some u → w.cell? ((a.add (i * size)).add k) = some u) ∧ wf y := fun i him => by
      obtain ⟨cs', h1, h2⟩ := hi i (by omega)
      rw [hc] at h1
      obtain ⟨_, hlen, hat⟩ := World.cells?_some h1
      obtain ⟨y, rfl, hw⟩ := elem n _ _ h2
      exact ⟨y, fun k u hu => (hat k (by rw [← hlen]; exact (List.getElem?_eq_some_iff.1 hu).1)).trans hu, hw⟩
    obtain ⟨f, hf⟩ := choose_lt each
    refine ⟨(List.range len).map f, ⟨some a, cap, by rw [hcs]; simp, by simp; omega, fun j x i u hj hu => ?_⟩, fun y hy => ?_⟩
    · have hjl := (List.getElem?_eq_some_iff.1 hj).1
      simp at hjl
      rw [List.getElem?_map, List.getElem?_range hjl] at hj
      cases hj
      have := (hf j hjl).1 i u hu
      have hbl := World.block_lt_of_cell? w _ this
      rw [add_block, add_block] at hbl
      exact ⟨a, rfl, hbl, this⟩
    · obtain ⟨i, hi, rfl⟩ := List.mem_map.1 hy
      exact (hf i (List.mem_range.1 hi)).2
theorem open_many {α : Type} [Inhabited α] {t e : TypeId} {R : RP α} {wf : α → Prop} (ht : P.underlying t = some (.slice e)) (hc : P.cellsOf e = 1)
    (elem : ∀ (n : Nat) (v : Value) (x : DataW H × List MemPlace), DataW.trod enc P w base (fun _ => true) held n e [v] = some x → ∃ y : α, R w v y ∧ wf y) {fuel : Nat} {v : Value} {x : DataW H × List MemPlace}
    (h : DataW.trod enc P w base (fun _ => true) held fuel t [v] = some x) : ∃ xs : List α, ManyR R w v xs ∧ ∀ y ∈ xs, wf y := by
  rcases open_slice1 ht hc h with ⟨h0, _⟩ | ⟨a, len, cap, m, n, V, D, Pl, hcs, hb, hl, hm, hmm, hx, hi⟩
  · simp only [List.cons.injEq, and_true] at h0
    exact ⟨[], ⟨none, 0, h0, Nat.zero_le _, fun j x hj => by simp at hj⟩, fun y hy => by cases hy⟩
  · simp only [if_true] at hmm
    simp only [List.cons.injEq, and_true] at hcs
    have each : ∀ i, i < len → ∃ y : α, R w (V i) y ∧ wf y := fun i him => elem n _ _ (hi i (by omega)).2
    obtain ⟨f, hf⟩ := choose_lt each
    refine ⟨(List.range len).map f, ⟨some a, cap, by rw [hcs]; simp, by simp; omega, fun j x hj => ?_⟩, fun y hy => ?_⟩
    · have hjl := (List.getElem?_eq_some_iff.1 hj).1
      simp at hjl
      rw [List.getElem?_map, List.getElem?_range hjl] at hj
      cases hj
      have := (hi j (by omega)).1
      have hbl := World.block_lt_of_cell? w _ this
      rw [add_block] at hbl
      exact ⟨a, V j, rfl, hbl, this, (hf j hjl).1⟩
    · obtain ⟨i, hi, rfl⟩ := List.mem_map.1 hy
      exact (hf i (List.mem_range.1 hi)).2
end

def I64 (n : Int) : Prop := (Lit.int .i64 n).wf = true
section
variable {H : Type} {enc : TypeId × Value → H} {w : World} {held : Bool}
theorem read_int {n : Nat} {cs : List Value} {x : DataW H × List MemPlace} (h : DataW.trod enc Tryz.prog w 0 (fun _ => true) held n 2 cs = some x) : ∃ y : Int, cs = [.int .i64 y] ∧ I64 y := by
  obtain ⟨y, rfl, _, hw⟩ := DataW.trod_int Tryz.underlying2 h
  exact ⟨y, rfl, hw⟩
theorem read_bool {n : Nat} {cs : List Value} {x : DataW H × List MemPlace} (h : DataW.trod enc Tryz.prog w 0 (fun _ => true) held n 4 cs = some x) : ∃ y : Bool, cs = [.bool y] ∧ True := by
  obtain ⟨y, rfl, _⟩ := DataW.trod_bool Tryz.underlying4 h
  exact ⟨y, rfl, trivial⟩
end

theorem cells_i64 : Tryz.prog.cellsOf 2 = 1 := by kernel_rfl
theorem cells_bool : Tryz.prog.cellsOf 4 = 1 := by kernel_rfl
theorem cells_ints : Tryz.prog.cellsOf 39 = 1 := by kernel_rfl
section
variable {H : Type} {enc : TypeId × Value → H} {w : World} {held : Bool}
def WfI (xs : List Int) : Prop := ∀ y ∈ xs, I64 y
def WfP (xs : List (Int × Int)) : Prop := ∀ y ∈ xs, I64 y.1 ∧ I64 y.2
structure WfC (c : Ck) : Prop where
  stack : I64 c.stack
  start : I64 c.start
  call : ∀ x ∈ c.call, WfP x
  ret : ∀ x ∈ c.ret, ∀ y ∈ x, WfI y
  inner : ∀ x ∈ c.inner, WfI x

/-- A laws.Checker that came in. -/
def CkR : RP Ck := fun w v c => ∃ va vc vr vi, v = .agg #[.int .i64 c.stack, .int .i64 c.start, va, vc, vr, vi] ∧ BoolsR w va c.accept ∧ Push2R w vc c.call ∧ Ints3R w vr c.ret ∧ Ints2R w vi c.inner
theorem ck_r : RP.Ok CkR where
  later := by
    rintro w w' v c ⟨va, vc, vr, vi, rfl, h1, h2, h3, h4⟩ hb
    exact ⟨va, vc, vr, vi, rfl, bools_r.later h1 hb, pushes2_r.later h2 hb, ints3_r.later h3 hb, ints2_r.later h4 hb⟩

theorem read_ints {n : Nat} {v : Value} {x : DataW H × List MemPlace} (h : DataW.trod enc Tryz.prog w 0 (fun _ => true) held n 39 [v] = some x) : ∃ y, IntsR w v y ∧ WfI y :=
  open_row Tryz.underlying39 cells_i64 (fun _ _ _ h => read_int h) h
end
end Go.Proofs.YtblgjedjljfmcaaGreatDoor
/- toChecker, and the laws' functions that count what came in. -/
namespace Go.Proofs.YtblgjedjljfmcaaGreatDoor
open Go.RowKit

/-- What is left, or that there is too much. -/
def dec (left n : Nat) : Int := if n ≤ left then ((left - n : Nat) : Int) else -1
theorem dec_yes {left n : Nat} (h : n ≤ left) : dec left n = ((left - n : Nat) : Int) := by rw [dec, if_pos h]
theorem dec_no {left n : Nat} (h : ¬ n ≤ left) : dec left n = -1 := by rw [dec, if_neg h]
def lenA {α : Type} (x : List α) : Nat := x.length
def cnt2 {α : Type} (xs : List (List α)) : Nat := xs.length + szL lenA xs
def cnt3 {α : Type} (xs : List (List (List α))) : Nat := xs.length + szL cnt2 xs


def cntC (c : Ck) : Nat := lenA c.accept + (cnt2 c.call + (cnt3 c.ret + cnt2 c.inner))
theorem szL_mem {α : Type} {sz : α → Nat} : ∀ (xs : List α) (x : α), x ∈ xs → sz x ≤ szL sz xs := by
  intro xs
  induction xs with
  | nil => intro x h; cases h
  | cons y xs ih =>
    intro x h
    simp only [szL, List.map_cons, List.sum_cons] at ih ⊢
    rcases List.mem_cons.1 h with rfl | h
    · omega
    · have := ih x h; omega
theorem szL_lenP (xs : List (List (Int × Int))) : szL lenP xs = 2 * szL lenA xs := by
  induction xs with
  | nil => rfl
  | cons y xs ih =>
    simp only [szL, List.map_cons, List.sum_cons] at ih ⊢
    rw [ih, lenP, lenA]
    omega
theorem szL_le {α : Type} {f g : α → Nat} (h : ∀ x, f x ≤ g x) (xs : List α) : szL f xs ≤ szL g xs := by
  induction xs with
  | nil => exact Nat.le_refl _
  | cons y xs ih =>
    simp only [szL, List.map_cons, List.sum_cons] at ih ⊢
    have := h y
    omega
/-- What is not too much is within all bounds. -/
theorem bd_of_cnt {c : Ck} (h : cntC c ≤ 1048576) : BdC c := by
  have h' : c.accept.length + ((c.call.length + szL lenA c.call) + ((c.ret.length + szL cnt2 c.ret) + (c.inner.length + szL lenA c.inner))) ≤ 1048576 := h
  refine ⟨by unfold Bd1; omega, ⟨by omega, fun x hx => ?_⟩, ⟨by omega, fun x hx => ?_⟩, ⟨by omega, fun x hx => ?_⟩, ?_⟩
  · have m := szL_mem (sz := lenA) _ _ hx
    have e : lenA x = x.length := rfl
    unfold Bd1
    omega
  · have m := szL_mem (sz := cnt2) _ _ hx
    have e : cnt2 x = x.length + szL lenA x := rfl
    refine ⟨by omega, fun y hy => ?_⟩
    have m2 := szL_mem (sz := lenA) _ _ hy
    have e2 : lenA y = y.length := rfl
    unfold Bd1
    omega
  · have m := szL_mem (sz := lenA) _ _ hx
    have e : lenA x = x.length := rfl
    unfold Bd1
    omega
  · have h1 : szL (szL lenI) c.ret ≤ szL cnt2 c.ret := szL_le (fun x => show szL lenI x ≤ cnt2 x from Nat.le_add_left _ _) _
    have h2 : szL lenI c.inner = szL lenA c.inner := rfl
    have h3 := szL_lenP c.call
    unfold szC
    omega

end Go.Proofs.YtblgjedjljfmcaaGreatDoor
