/- A checker as choices, in plain terms. -/
import Derived.Test.YticmekdfdilcpaaOkHM
import Derived.Test.YticmekdfdilcpaaRunM
namespace Go.Proofs.Yticmekdfdilcpaa
open Go.RowKit
set_option linter.unusedVariables false

def one1 {α : Type} (x : α) : List α := [x]
def ones {α : Type} (xs : List α) : List (List α) := xs.map one1
def ones2 {α : Type} (xs : List (List α)) : List (List (List α)) := xs.map ones
def ones3 {α : Type} (xs : List (List (List α))) : List (List (List (List α))) := xs.map ones2
def chOf (c : Ck) : Ch := ⟨c.stack, [c.start], c.accept, ones2 c.call, ones3 c.ret, ones2 c.inner⟩
def nilCh : Ch := ⟨0, [], [], [], [], []⟩
theorem risP_one {x : Int × Int} {n st : Int} (h : pB n st x = true) : risP [x] n st = true := by
  simp only [risP, List.all_cons, List.all_nil, Bool.and_true, h, Bool.true_and]; rfl
theorem risB_one {x n : Int} (h : inB x n = true) : risB [x] n = true := by
  simp only [risB, allB, List.all_cons, List.all_nil, Bool.and_true, h, Bool.true_and]; rfl
theorem ones_len {α : Type} (xs : List α) : (ones xs).length = xs.length := by simp [ones]
theorem ones2_len {α : Type} (xs : List (List α)) : (ones2 xs).length = xs.length := by simp [ones2]
theorem ones3_len {α : Type} (xs : List (List (List α))) : (ones3 xs).length = xs.length := by simp [ones3]
theorem row_ok {x : List Int} {st n : Int} (h : listB x st n = true) : ((ones x).length : Int) = st ∧ ((ones x).all fun y => risB y n) = true := by
  rw [listB, Bool.and_eq_true, decide_eq_true_eq] at h
  refine ⟨by rw [ones_len]; exact h.1, ?_⟩
  rw [List.all_eq_true]
  intro y hy
  obtain ⟨z, hz, rfl⟩ := List.mem_map.1 hy
  have h2 := h.2
  rw [allB, List.all_eq_true] at h2
  exact risB_one (h2 z hz)
theorem okH_chOf {c : Ck} (h : OkC c) : okH (chOf c) = (decide (c.accept.length ≤ 5) && decide (c.stack ≤ 4)) := by
  have n1 := h.n1
  have s1 := h.st1
  have e1 : rngB (c.accept.length : Int) 1 5 = decide (c.accept.length ≤ 5) := by
    rw [rngB]
    by_cases h5 : c.accept.length ≤ 5
    · rw [decide_eq_true h5, decide_eq_true]; omega
    · rw [decide_eq_false h5, decide_eq_false]; omega
  have e2 : rngB c.stack 1 4 = decide (c.stack ≤ 4) := by
    rw [rngB]
    by_cases h5 : c.stack ≤ 4
    · rw [decide_eq_true h5, decide_eq_true]; omega
    · rw [decide_eq_false h5, decide_eq_false]; omega
  have e3 : risB [c.start] c.accept.length = true := risB_one (by unfold inB; exact decide_eq_true h.start)
  have e4 : allH c.accept.length c.stack (ones2 c.call) (ones3 c.ret) (ones2 c.inner) c.accept.length = true := by
    rw [allH, List.all_eq_true]
    intro s hs
    have hs := List.mem_range.1 hs
    obtain ⟨x1, y1, g1, p1, p2⟩ := h.call s hs
    obtain ⟨x2, y2, g2, q1, q2⟩ := h.ret s hs
    obtain ⟨x3, y3, g3, r1, r2⟩ := h.inner s hs
    have f1 : (ones2 c.call)[s]? = some [[x1], [y1]] := by rw [ones2, List.getElem?_map, g1]; rfl
    have f2 : (ones3 c.ret)[s]? = some [ones x2, ones y2] := by rw [ones3, List.getElem?_map, g2]; rfl
    have f3 : (ones2 c.inner)[s]? = some [[x3], [y3]] := by rw [ones2, List.getElem?_map, g3]; rfl
    rw [f1, f2, f3]
    have hr : List.range 2 = [0, 1] := rfl
    have k1 := row_ok q1
    have k2 := row_ok q2
    simp only [Option.getD_some, stH, List.length_cons, List.length_nil, twoH, hr, List.all_cons, List.all_nil, List.getElem?_cons_zero, List.getElem?_cons_succ, kH, risP_one p1, risP_one p2, risB_one r1, risB_one r2, k1.1, k1.2, k2.1, k2.2, decide_true, Bool.and_true]
  rw [okH, hdH]
  show (rngB (c.accept.length : Int) 1 5 && (rngB c.stack 1 4 && (risB [c.start] c.accept.length && (decide ((ones2 c.call).length = c.accept.length) && (decide ((ones3 c.ret).length = c.accept.length) && decide ((ones2 c.inner).length = c.accept.length))))) && allH c.accept.length c.stack (ones2 c.call) (ones3 c.ret) (ones2 c.inner) c.accept.length) = _
  rw [e1, e2, e3, e4, ones2_len, ones3_len, ones2_len, h.lc, h.lr, h.li]
  simp
theorem szL_bdH {α : Type} {f : α → Nat} {M : Nat} {xs : List α} (h : ∀ x ∈ xs, f x ≤ M) : szL f xs ≤ xs.length * M := by
  induction xs with
  | nil => simp [szL]
  | cons x xs ih =>
    have h1 := h x (List.mem_cons_self ..)
    have h2 := ih fun y hy => h y (List.mem_cons_of_mem _ hy)
    simp only [szL, List.map_cons, List.sum_cons, List.length_cons] at h2 ⊢
    rw [Nat.succ_mul]
    omega
theorem lens_okC {c : Ck} (h : OkC c) : (∀ x ∈ c.call, x.length = 2) ∧ (∀ x ∈ c.ret, x.length = 2 ∧ ∀ y ∈ x, y.length ≤ 81) ∧ (∀ x ∈ c.inner, x.length = 2) := by
  have hst := h.st2
  refine ⟨fun x hx => ?_, fun x hx => ?_, fun x hx => ?_⟩
  · obtain ⟨s, hs⟩ := List.getElem?_of_mem hx
    obtain ⟨a, b, e, _⟩ := h.call s (by rw [← h.lc]; exact (List.getElem?_eq_some_iff.1 hs).1)
    rw [hs] at e; cases e; rfl
  · obtain ⟨s, hs⟩ := List.getElem?_of_mem hx
    obtain ⟨a, b, e, h1, h2⟩ := h.ret s (by rw [← h.lr]; exact (List.getElem?_eq_some_iff.1 hs).1)
    rw [hs] at e; cases e
    refine ⟨rfl, fun y hy => ?_⟩
    rw [listB, Bool.and_eq_true, decide_eq_true_eq] at h1 h2
    simp only [List.mem_cons, List.not_mem_nil, or_false] at hy
    rcases hy with rfl | rfl
    · have := h1.1; omega
    · have := h2.1; omega
  · obtain ⟨s, hs⟩ := List.getElem?_of_mem hx
    obtain ⟨a, b, e, _⟩ := h.inner s (by rw [← h.li]; exact (List.getElem?_eq_some_iff.1 hs).1)
    rw [hs] at e; cases e; rfl
theorem bdH_chOf {c : Ck} (h : OkC c) : BdH (chOf c) := by
  obtain ⟨c1, r1, i1⟩ := lens_okC h
  have n2 := h.n2
  have lc := h.lc
  have lr := h.lr
  have li := h.li
  have q1 : ∀ x ∈ ones2 c.call, x.length = 2 ∧ ∀ y ∈ x, y.length = 1 := fun x hx => by
    obtain ⟨z, hz, rfl⟩ := List.mem_map.1 hx
    refine ⟨by rw [ones_len]; exact c1 z hz, fun y hy => ?_⟩
    obtain ⟨u, _, rfl⟩ := List.mem_map.1 hy
    rfl
  have q3 : ∀ x ∈ ones2 c.inner, x.length = 2 ∧ ∀ y ∈ x, y.length = 1 := fun x hx => by
    obtain ⟨z, hz, rfl⟩ := List.mem_map.1 hx
    refine ⟨by rw [ones_len]; exact i1 z hz, fun y hy => ?_⟩
    obtain ⟨u, _, rfl⟩ := List.mem_map.1 hy
    rfl
  have q2 : ∀ x ∈ ones3 c.ret, x.length = 2 ∧ ∀ y ∈ x, y.length ≤ 81 ∧ ∀ z ∈ y, z.length = 1 := fun x hx => by
    obtain ⟨z, hz, rfl⟩ := List.mem_map.1 hx
    refine ⟨by rw [ones2_len]; exact (r1 z hz).1, fun y hy => ?_⟩
    obtain ⟨u, hu, rfl⟩ := List.mem_map.1 hy
    refine ⟨by rw [ones_len]; exact (r1 z hz).2 u hu, fun a ha => ?_⟩
    obtain ⟨b, _, rfl⟩ := List.mem_map.1 ha
    rfl
  have s1 : szL (szL lenP) (ones2 c.call) ≤ (ones2 c.call).length * 4 := szL_bdH fun x hx => by
    have t : szL lenP x ≤ x.length * 2 := szL_bdH fun y hy => by unfold lenP; have := (q1 x hx).2 y hy; omega
    have := (q1 x hx).1; omega
  have s3 : szL (szL lenI) (ones2 c.inner) ≤ (ones2 c.inner).length * 4 := szL_bdH fun x hx => by
    have t : szL lenI x ≤ x.length * 2 := szL_bdH fun y hy => by unfold lenI; have := (q3 x hx).2 y hy; omega
    have := (q3 x hx).1; omega
  have s2 : szL (szL (szL lenI)) (ones3 c.ret) ≤ (ones3 c.ret).length * 200 := szL_bdH fun x hx => by
    have t : szL (szL lenI) x ≤ x.length * 100 := szL_bdH fun y hy => by
      have t2 : szL lenI y ≤ y.length * 1 := szL_bdH fun z hz => by unfold lenI; have := ((q2 x hx).2 y hy).2 z hz; omega
      have := ((q2 x hx).2 y hy).1; omega
    have := (q2 x hx).1; omega
  rw [ones2_len] at s1 s3
  rw [ones3_len] at s2
  refine ⟨by show (1 : Nat) ≤ 1048576; decide, by show c.accept.length ≤ _; omega, ⟨by show (ones2 c.call).length ≤ _; rw [ones2_len]; omega, fun x hx => ⟨by have := (q1 x hx).1; omega, fun y hy => by have := (q1 x hx).2 y hy; unfold Bd1; omega⟩⟩, ⟨by show (ones3 c.ret).length ≤ _; rw [ones3_len]; omega, fun x hx => ⟨by have := (q2 x hx).1; omega, fun y hy => ⟨by have := ((q2 x hx).2 y hy).1; omega, fun z hz => by have := ((q2 x hx).2 y hy).2 z hz; unfold Bd1; omega⟩⟩⟩, ⟨by show (ones2 c.inner).length ≤ _; rw [ones2_len]; omega, fun x hx => ⟨by have := (q3 x hx).1; omega, fun y hy => by have := (q3 x hx).2 y hy; unfold Bd1; omega⟩⟩, ?_⟩
  show 1 + (c.accept.length + (szL (szL lenP) (ones2 c.call) + (szL (szL (szL lenI)) (ones3 c.ret) + szL (szL lenI) (ones2 c.inner)))) ≤ _
  omega
theorem bdH_nil : BdH nilCh := by refine ⟨?_, ?_, ⟨?_, ?_⟩, ⟨?_, ?_⟩, ⟨?_, ?_⟩, ?_⟩ <;> simp [nilCh, Bd1, szH, szL, lenI]
end Go.Proofs.Yticmekdfdilcpaa
