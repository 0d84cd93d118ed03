/- Marks: the numbers that a law writes into a value and finds there again. -/
import Derived.Test.YticmekdfdilcpaaOwn
namespace Go.Proofs.Yticmekdfdilcpaa
open Go.RowKit

def mkI (k : Nat) (xs : List Int) : List Int := (List.range xs.length).map fun i : Nat => ((k + i : Nat) : Int)
def mkB (k : Nat) (xs : List Bool) : List Bool := (List.range xs.length).map fun i : Nat => ((k : Int) + (i : Int)) % 3 == 0
def mkP (k : Nat) (xs : List (Int × Int)) : List (Int × Int) := (List.range xs.length).map fun i : Nat => (((k + 2 * i : Nat) : Int), ((k + 2 * i + 1 : Nat) : Int))
def szL {α : Type} (sz : α → Nat) (xs : List α) : Nat := (xs.map sz).sum
def mkL {α : Type} (mk : Nat → α → α) (sz : α → Nat) : Nat → List α → List α
  | _, [] => []
  | k, x :: xs => mk k x :: mkL mk sz (k + sz x) xs

section
variable {α : Type} {mk : Nat → α → α} {sz : α → Nat}
theorem szL_snoc (xs : List α) (x : α) : szL sz (xs ++ [x]) = szL sz xs + sz x := by simp [szL]
theorem szL_take_succ {xs : List α} {j : Nat} {x : α} (h : xs[j]? = some x) : szL sz (xs.take (j + 1)) = szL sz (xs.take j) + sz x := by
  rw [List.take_add_one, h]; exact szL_snoc _ _
theorem szL_take_le (xs : List α) (j : Nat) : szL sz (xs.take j) ≤ szL sz xs := by
  have h : szL sz xs = szL sz (xs.take j) + szL sz (xs.drop j) := by simp [szL, ← List.sum_append]
  omega
theorem mkL_len (xs : List α) : ∀ k, (mkL mk sz k xs).length = xs.length := by
  induction xs with
  | nil => intro k; rfl
  | cons x xs ih => intro k; simp [mkL, ih]
theorem mkL_snoc (xs : List α) (x : α) : ∀ k, mkL mk sz k (xs ++ [x]) = mkL mk sz k xs ++ [mk (k + szL sz xs) x] := by
  induction xs with
  | nil => intro k; simp [mkL, szL]
  | cons y xs ih =>
    intro k
    simp only [List.cons_append, mkL, ih, szL, List.map_cons, List.sum_cons]
    rw [Nat.add_assoc]
theorem mkL_szL (h : ∀ k x, sz (mk k x) = sz x) (xs : List α) : ∀ k, szL sz (mkL mk sz k xs) = szL sz xs := by
  induction xs with
  | nil => intro k; rfl
  | cons x xs ih =>
    intro k
    have := ih (k + sz x)
    simp only [szL, mkL, List.map_cons, List.sum_cons, h] at this ⊢
    rw [this]

/-- What is there when the first j values bear their marks. -/
def half (mk : Nat → α → α) (sz : α → Nat) (k : Nat) (xs : List α) (j : Nat) : List α := mkL mk sz k (xs.take j) ++ xs.drop j
theorem half_zero (k : Nat) (xs : List α) : half mk sz k xs 0 = xs := by simp [half, mkL]
theorem half_all (k : Nat) (xs : List α) : half mk sz k xs xs.length = mkL mk sz k xs := by simp [half]
theorem half_len (k : Nat) (xs : List α) (j : Nat) : (half mk sz k xs j).length = xs.length := by
  rw [half, List.length_append, mkL_len, List.length_take, List.length_drop]; omega
theorem half_at {k : Nat} {xs : List α} {j : Nat} {x : α} (h : xs[j]? = some x) : (half mk sz k xs j)[j]? = some x := by
  have hj := (List.getElem?_eq_some_iff.1 h).1
  rw [half, List.getElem?_append_right (by rw [mkL_len, List.length_take]; omega), mkL_len, List.length_take, List.getElem?_drop, show j + (j - min j xs.length) = j from by omega, h]
theorem half_set {k : Nat} {xs : List α} {j : Nat} {x : α} (h : xs[j]? = some x) : (half mk sz k xs j).set j (mk (k + szL sz (xs.take j)) x) = half mk sz k xs (j + 1) := by
  obtain ⟨hj, hx⟩ := List.getElem?_eq_some_iff.1 h
  have hl : (mkL mk sz k (xs.take j)).length = j := by rw [mkL_len, List.length_take]; omega
  rw [half, List.set_append_right _ _ (by omega), hl, Nat.sub_self, List.drop_eq_getElem_cons hj, List.set_cons_zero, half, List.take_add_one, h, Option.toList_some, mkL_snoc, List.append_assoc]
  rfl
theorem mkL_at {k : Nat} {xs : List α} {j : Nat} {x : α} (h : xs[j]? = some x) : (mkL mk sz k xs)[j]? = some (mk (k + szL sz (xs.take j)) x) := by
  have hj := (List.getElem?_eq_some_iff.1 h).1
  have e : xs = xs.take j ++ x :: xs.drop (j + 1) := by
    have := (List.getElem?_eq_some_iff.1 h).2
    rw [← this, ← List.drop_eq_getElem_cons hj, List.take_append_drop]
  have key : ∀ (ys zs : List α) k, (mkL mk sz k (ys ++ x :: zs))[ys.length]? = some (mk (k + szL sz ys) x) := by
    intro ys
    induction ys with
    | nil => intro zs k; simp [mkL, szL]
    | cons y ys ih =>
      intro zs k
      simp only [List.cons_append, mkL, List.length_cons, List.getElem?_cons_succ, ih, szL, List.map_cons, List.sum_cons]
      rw [Nat.add_assoc]
  have := key (xs.take j) (xs.drop (j + 1)) k
  rwa [← e, List.length_take, Nat.min_eq_left (by omega)] at this
end

theorem mkI_len (k : Nat) (xs : List Int) : (mkI k xs).length = xs.length := by simp [mkI]
theorem mkB_len (k : Nat) (xs : List Bool) : (mkB k xs).length = xs.length := by simp [mkB]
theorem mkP_len (k : Nat) (xs : List (Int × Int)) : (mkP k xs).length = xs.length := by simp [mkP]
theorem mkI_at (k : Nat) (xs : List Int) (j : Nat) (h : j < xs.length) : (mkI k xs)[j]? = some ((k + j : Nat) : Int) := by simp [mkI, h]
theorem mkB_at (k : Nat) (xs : List Bool) (j : Nat) (h : j < xs.length) : (mkB k xs)[j]? = some (((k : Int) + (j : Int)) % 3 == 0) := by simp [mkB, h]
theorem mkP_at (k : Nat) (xs : List (Int × Int)) (j : Nat) (h : j < xs.length) : (mkP k xs)[j]? = some (((k + 2 * j : Nat) : Int), ((k + 2 * j + 1 : Nat) : Int)) := by simp [mkP, h]

/-- Of a list of which the first j values are others. -/
def front {α : Type} (ys xs : List α) (j : Nat) : List α := ys.take j ++ xs.drop j
theorem front_zero {α : Type} (ys xs : List α) : front ys xs 0 = xs := by simp [front]
theorem front_all {α : Type} (ys xs : List α) (h : ys.length = xs.length) : front ys xs xs.length = ys := by
  rw [front, List.drop_length, List.append_nil, ← h, List.take_length]
theorem front_len {α : Type} (ys xs : List α) (h : ys.length = xs.length) (j : Nat) : (front ys xs j).length = xs.length := by
  rw [front, List.length_append, List.length_take, List.length_drop]; omega
theorem front_at {α : Type} (ys xs : List α) (h : ys.length = xs.length) {j : Nat} (hj : j < xs.length) : (front ys xs j)[j]? = xs[j]? := by
  rw [front, List.getElem?_append_right (by rw [List.length_take]; omega), List.length_take, List.getElem?_drop, show j + (j - min j ys.length) = j from by omega]
theorem front_set {α : Type} (ys xs : List α) (h : ys.length = xs.length) {j : Nat} {y : α} (hy : ys[j]? = some y) : (front ys xs j).set j y = front ys xs (j + 1) := by
  have hj := (List.getElem?_eq_some_iff.1 hy).1
  rw [front, List.set_append_right _ _ (by rw [List.length_take]; omega), List.length_take, show j - min j ys.length = 0 from by omega, List.drop_eq_getElem_cons (by omega), List.set_cons_zero, front, List.take_add_one, hy, Option.toList_some, List.append_assoc]
  rfl

/-- A row's cells. -/
theorem flat_at {α : Type} {enc : α → List Value} {size : Nat} (hs : ∀ x, (enc x).length = size) : ∀ (xs : List α) (j : Nat) (x : α) (i : Nat), xs[j]? = some x → i < size → (xs.flatMap enc)[j * size + i]? = (enc x)[i]? := by
  intro xs
  induction xs with
  | nil => intro j x i h; simp at h
  | cons y xs ih =>
    intro j x i h hi
    cases j with
    | zero =>
      simp at h
      subst h
      rw [List.flatMap_cons, Nat.zero_mul, Nat.zero_add, List.getElem?_append_left (by rw [hs]; exact hi)]
    | succ j =>
      rw [List.getElem?_cons_succ] at h
      rw [List.flatMap_cons, List.getElem?_append_right (by rw [hs, Nat.succ_mul]; omega), hs, ← ih j x i h hi, Nat.succ_mul]
      congr 1
      omega
theorem flat_set1 {α : Type} {f : α → Value} : ∀ (xs : List α) (j : Nat) (y : α), (xs.flatMap fun x => [f x]).set j (f y) = (xs.set j y).flatMap fun x => [f x] := by
  intro xs
  induction xs with
  | nil => intro j y; rfl
  | cons x xs ih =>
    intro j y
    cases j with
    | zero => rfl
    | succ j => simp only [List.flatMap_cons, List.set_cons_succ, List.singleton_append, ih]
theorem flat_set2 {α : Type} {f g : α → Value} : ∀ (xs : List α) (j : Nat) (y : α), ((xs.flatMap fun x => [f x, g x]).set (2 * j) (f y)).set (2 * j + 1) (g y) = (xs.set j y).flatMap fun x => [f x, g x] := by
  intro xs
  induction xs with
  | nil => intro j y; rfl
  | cons x xs ih =>
    intro j y
    cases j with
    | zero => rfl
    | succ j =>
      rw [show 2 * (j + 1) = 2 * j + 1 + 1 from by omega]
      simp only [List.flatMap_cons, List.set_cons_succ, List.cons_append, List.nil_append, ih]

/-- What a marking call leaves. -/
def MarkPost {α : Type} (E : EP α) (v : Value) (x : α) (bs : List Nat) (k : Nat) (w : World) (e : Ending) (w' : World) : Prop :=
  e = .returned (.int .i64 (k : Int)) ∧ E w' v x bs ∧ Turned bs w w'
/-- What a call that compares, or finds the marks, leaves. -/
def SeenPost (r : Value) (w : World) (e : Ending) (w' : World) : Prop := e = .returned r ∧ Below w.heap.size w w'
end Go.Proofs.Yticmekdfdilcpaa
