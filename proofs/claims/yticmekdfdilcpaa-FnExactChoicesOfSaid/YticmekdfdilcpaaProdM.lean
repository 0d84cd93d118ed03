/- Plain mathematics of pairs of checkers: lists of pairs, in the order of the first ones. -/
import Derived.Test.YticmekdfdilcpaaChk
import Derived.WalkKit
namespace Go.Proofs.Yticmekdfdilcpaa
open Go.RowKit
set_option linter.unusedVariables false

/-- What f makes of each pair, all those with one first element ahead of those with the next. -/
def prodL {α β γ : Type} (f : α → β → γ) (xs : List α) (ys : List β) : List γ := xs.flatMap fun a => ys.map (f a)
/-- .. of the first s of the first ones, and of the next one with the first t of the second ones. -/
def prodT {α β γ : Type} (f : α → β → γ) (xs : List α) (ys : List β) (s t : Nat) : List γ :=
  prodL f (xs.take s) ys ++ (match xs[s]? with | some a => (ys.take t).map (f a) | none => [])
theorem prodT_zero {α β γ : Type} (f : α → β → γ) (xs : List α) (ys : List β) : prodT f xs ys 0 0 = [] := by
  unfold prodT prodL
  cases xs[0]? <;> simp
theorem prodT_more {α β γ : Type} {f : α → β → γ} {xs : List α} {ys : List β} {s t : Nat} {a : α} {b : β} (ha : xs[s]? = some a) (hb : ys[t]? = some b) :
    prodT f xs ys s (t + 1) = prodT f xs ys s t ++ [f a b] := by
  unfold prodT
  simp only [ha, List.take_add_one, hb, Option.toList_some, List.map_append, List.map_cons, List.map_nil, List.append_assoc]
theorem prodT_next {α β γ : Type} {f : α → β → γ} {xs : List α} {ys : List β} {s : Nat} (hs : s < xs.length) : prodT f xs ys s ys.length = prodT f xs ys (s + 1) 0 := by
  unfold prodT prodL
  rw [List.getElem?_eq_getElem hs]
  simp only [List.take_length, List.take_add_one, List.getElem?_eq_getElem hs, Option.toList_some, List.flatMap_append, List.flatMap_cons, List.flatMap_nil, List.append_nil, List.take_zero, List.map_nil]
  cases xs[s + 1]? <;> simp
theorem prodT_all {α β γ : Type} (f : α → β → γ) (xs : List α) (ys : List β) : prodT f xs ys xs.length 0 = prodL f xs ys := by
  unfold prodT
  rw [List.take_length, List.getElem?_eq_none (Nat.le_refl _)]
  simp
theorem prodL_len {α β γ : Type} (f : α → β → γ) (xs : List α) (ys : List β) : (prodL f xs ys).length = xs.length * ys.length := by
  unfold prodL
  induction xs with
  | nil => simp
  | cons x xs ih => rw [List.flatMap_cons, List.length_append, ih, List.length_map, List.length_cons, Nat.add_mul, Nat.one_mul, Nat.add_comm]
theorem prodT_len {α β γ : Type} (f : α → β → γ) (xs : List α) (ys : List β) {s t : Nat} (hs : s < xs.length) (ht : t ≤ ys.length) : (prodT f xs ys s t).length = s * ys.length + t := by
  unfold prodT
  rw [List.getElem?_eq_getElem hs, List.length_append, prodL_len, List.length_take, Nat.min_eq_left (by omega)]
  simp
  omega
theorem prodT_len0 {α β γ : Type} (f : α → β → γ) (xs : List α) (ys : List β) {s : Nat} (hs : s ≤ xs.length) : (prodT f xs ys s 0).length = s * ys.length := by
  unfold prodT
  rw [List.length_append, prodL_len, List.length_take, Nat.min_eq_left hs]
  cases xs[s]? <;> simp
theorem prodL_mem {α β γ : Type} {f : α → β → γ} {xs : List α} {ys : List β} {z : γ} (h : z ∈ prodL f xs ys) : ∃ a ∈ xs, ∃ b ∈ ys, z = f a b := by
  unfold prodL at h
  simp only [List.mem_flatMap, List.mem_map] at h
  obtain ⟨a, ha, b, hb, rfl⟩ := h
  exact ⟨a, ha, b, hb, rfl⟩
theorem prodT_mem {α β γ : Type} {f : α → β → γ} {xs : List α} {ys : List β} {s t : Nat} {z : γ} (h : z ∈ prodT f xs ys s t) : ∃ a ∈ xs, ∃ b ∈ ys, z = f a b := by
  unfold prodT at h
  rcases List.mem_append.1 h with h | h
  · obtain ⟨a, ha, b, hb, e⟩ := prodL_mem h
    exact ⟨a, List.mem_of_mem_take ha, b, hb, e⟩
  · cases hx : xs[s]? with
    | none => rw [hx] at h; cases h
    | some a =>
      rw [hx] at h
      simp only [List.mem_map] at h
      obtain ⟨b, hb, rfl⟩ := h
      exact ⟨a, List.mem_of_getElem? hx, b, List.mem_of_mem_take hb, rfl⟩

/-- What f makes of elements with the same index. -/
def zipT {α β : Type} (f : α → α → β) (xs ys : List α) (j : Nat) : List β := List.zipWith f (xs.take j) (ys.take j)
theorem zipT_succ {α β : Type} {f : α → α → β} {xs ys : List α} {j : Nat} {a b : α} (ha : xs[j]? = some a) (hb : ys[j]? = some b) : zipT f xs ys (j + 1) = zipT f xs ys j ++ [f a b] := by
  unfold zipT
  have h1 := (List.getElem?_eq_some_iff.1 ha).1
  have h2 := (List.getElem?_eq_some_iff.1 hb).1
  rw [List.take_add_one, List.take_add_one, ha, hb, Option.toList_some, Option.toList_some, List.zipWith_append (by simp; omega)]
  rfl
theorem zipT_len {α β : Type} (f : α → α → β) {xs ys : List α} {j : Nat} (h1 : j ≤ xs.length) (h2 : j ≤ ys.length) : (zipT f xs ys j).length = j := by
  unfold zipT; simp; omega
theorem zipT_all {α β : Type} (f : α → α → β) {xs ys : List α} (h : xs.length ≤ ys.length) : zipT f xs ys xs.length = List.zipWith f xs ys := by
  unfold zipT
  rw [List.take_length]
  apply List.ext_getElem?
  intro i
  rw [List.getElem?_zipWith, List.getElem?_zipWith]
  by_cases hi : i < xs.length
  · rw [List.getElem?_take_of_lt hi]
  · rw [List.getElem?_eq_none (l := xs) (by omega)]

/-- How pairs of states, of moves at calls and of the lists of states of returns are numbered. -/
def pairS (n : Nat) (a b : Int) : Int := a * n + b
def pairP (n : Nat) (m : Int) (a b : Int × Int) : Int × Int := (pairS n a.1 b.1, a.2 * m + b.2)
def pairR (n : Nat) (a b : List Int) : List Int := prodL (pairS n) a.dropLast b.dropLast ++ [pairS n (a.getLastD 0) (b.getLastD 0)]
/-- The checker of pairs. -/
def pairC (f : Bool → Bool → Bool) (c d : Ck) : Ck :=
  { stack := c.stack * d.stack, start := pairS d.accept.length c.start d.start, accept := prodL f c.accept d.accept,
    call := prodL (List.zipWith (pairP d.accept.length d.stack)) c.call d.call, ret := prodL (List.zipWith (pairR d.accept.length)) c.ret d.ret, inner := prodL (List.zipWith (pairS d.accept.length)) c.inner d.inner }
/-- .. while it is being made: behind the first s states of the first one and the first t of the second one. -/
def pairT (f : Bool → Bool → Bool) (c d : Ck) (s t : Nat) : Ck :=
  { stack := c.stack * d.stack, start := pairS d.accept.length c.start d.start, accept := prodT f c.accept d.accept s t,
    call := prodT (List.zipWith (pairP d.accept.length d.stack)) c.call d.call s t, ret := prodT (List.zipWith (pairR d.accept.length)) c.ret d.ret s t, inner := prodT (List.zipWith (pairS d.accept.length)) c.inner d.inner s t }
end Go.Proofs.Yticmekdfdilcpaa
