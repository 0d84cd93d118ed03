/- The text of a checker, in plain mathematics. -/
import Derived.Test.YtglbmmgancecnaaDoorRowT
import Derived.Test.YtglbmmgancecnaaDoorRunM
namespace Go.Proofs.YtglbmmgancecnaaDoor
open Go.RowKit
set_option linter.unusedVariables false

theorem rowT_append (t : ByteArray) (xs ys : List Int) : rowT t (xs ++ ys) = rowT (rowT t xs) ys := by
  unfold rowT; rw [List.foldl_append]
def nlB : ByteArray := ⟨#[10]⟩
def ckB : ByteArray := ⟨#[99, 104, 101, 99, 107, 101, 114]⟩
def ynB (b : Bool) : ByteArray := if b = true then ⟨#[121, 101, 115]⟩ else ⟨#[110, 111]⟩
theorem ynB_size (b : Bool) : (ynB b).size ≤ 3 := by cases b <;> decide
/-- The numbers of the moves from a state. -/
def pairN (ps : List (Int × Int)) : List Int := ps.flatMap fun p => [p.1, p.2]
def numsC (c : Ck) (s : Nat) : List Int := pairN (c.call[s]?.getD []) ++ ((c.ret[s]?.getD []).flatten ++ c.inner[s]?.getD [])
def lineC (c : Ck) (s : Nat) : ByteArray := rowT (ynB (c.accept[s]?.getD false)) (numsC c s) ++ nlB
def headC (c : Ck) : ByteArray := rowT ckB [(c.accept.length : Int), c.stack, c.start] ++ nlB
def textT (c : Ck) (k : Nat) : ByteArray := (List.range k).foldl (fun t s => t ++ lineC c s) (headC c)
theorem textT_zero (c : Ck) : textT c 0 = headC c := rfl
theorem textT_succ (c : Ck) (k : Nat) : textT c (k + 1) = textT c k ++ lineC c k := by
  unfold textT
  rw [List.range_succ, List.foldl_append]
  rfl
def textCk (c : Ck) : ByteArray := if okM c = true then textT c c.accept.length else ⟨#[]⟩
/-- What lies at a state. -/
structure AtC (c : Ck) (s : Nat) (x y : Int × Int) (r q : List Int) (i j : Int) : Prop where
  call : c.call[s]? = some [x, y]
  ret : c.ret[s]? = some [r, q]
  inner : c.inner[s]? = some [i, j]
  rl : r.length ≤ 81
  ql : q.length ≤ 81
  r0 : 0 < r.length
  q0 : 0 < q.length
  bx : Big [x.1, x.2]
  by_ : Big [y.1, y.2]
  br : Big r
  bq : Big q
  bi : Big [i, j]
theorem listB_big {xs : List Int} {m n : Int} (h : listB xs (m + 1) n = true) (hm : m ≤ 80) (hm1 : 1 ≤ m) (hn : n ≤ 40) : xs.length ≤ 81 ∧ Big xs ∧ 0 < xs.length := by
  rw [listB, Bool.and_eq_true, decide_eq_true_eq] at h
  refine ⟨by omega, fun x hx => ?_, by omega⟩
  have h2 := h.2
  rw [allB, List.all_eq_true] at h2
  have := inB_yes (h2 x hx)
  omega
theorem big_two {a b : Int} (ha : 0 ≤ a ∧ a ≤ 9223372036854775807) (hb : 0 ≤ b ∧ b ≤ 9223372036854775807) : Big [a, b] := by
  intro x hx
  simp only [List.mem_cons, List.not_mem_nil, or_false] at hx
  rcases hx with rfl | rfl
  · exact ha
  · exact hb
theorem AtC.of {c : Ck} (h : OkC c) {s : Nat} (hs : s < c.accept.length) : ∃ x y r q i j, AtC c s x y r q i j := by
  obtain ⟨x, y, h1, h2, h3⟩ := h.call s hs
  obtain ⟨r, q, h4, h5, h6⟩ := h.ret s hs
  obtain ⟨i, j, h7, h8, h9⟩ := h.inner s hs
  have n2 := h.n2
  have st2 := h.st2
  have hr := listB_big h5 st2 h.st1 (by omega)
  have hq := listB_big h6 st2 h.st1 (by omega)
  simp only [pB, Bool.and_eq_true] at h2 h3
  have x1 := inB_yes h2.1
  have x2 := inB_yes h2.2
  have y1 := inB_yes h3.1
  have y2 := inB_yes h3.2
  have i1 := inB_yes h8
  have j1 := inB_yes h9
  exact ⟨x, y, r, q, i, j, h1, h4, h7, hr.1, hq.1, hr.2.2, hq.2.2, big_two (by omega) (by omega), big_two (by omega) (by omega), hr.2.1, hq.2.1, big_two (by omega) (by omega)⟩
theorem AtC.nums {c : Ck} {s : Nat} {x y : Int × Int} {r q : List Int} {i j : Int} (h : AtC c s x y r q i j) : numsC c s = [x.1, x.2] ++ ([y.1, y.2] ++ (r ++ (q ++ [i, j]))) := by
  unfold numsC pairN
  rw [h.call, h.ret, h.inner]
  simp
theorem AtC.line {c : Ck} {s : Nat} {x y : Int × Int} {r q : List Int} {i j : Int} (h : AtC c s x y r q i j) :
    lineC c s = rowT (rowT (rowT (rowT (rowT (ynB (c.accept[s]?.getD false)) [x.1, x.2]) [y.1, y.2]) r) q) [i, j] ++ nlB := by
  unfold lineC
  rw [h.nums, rowT_append, rowT_append, rowT_append, rowT_append]
theorem AtC.big {c : Ck} {s : Nat} {x y : Int × Int} {r q : List Int} {i j : Int} (h : AtC c s x y r q i j) : Big (numsC c s) := by
  rw [h.nums]
  intro z hz
  rcases List.mem_append.1 hz with hz | hz
  · exact h.bx z hz
  rcases List.mem_append.1 hz with hz | hz
  · exact h.by_ z hz
  rcases List.mem_append.1 hz with hz | hz
  · exact h.br z hz
  rcases List.mem_append.1 hz with hz | hz
  · exact h.bq z hz
  · exact h.bi z hz
theorem AtC.len {c : Ck} {s : Nat} {x y : Int × Int} {r q : List Int} {i j : Int} (h : AtC c s x y r q i j) : (numsC c s).length ≤ 168 := by
  rw [h.nums]
  have h1 := h.rl
  have h2 := h.ql
  simp only [List.length_append, List.length_cons, List.length_nil]
  omega
theorem nlB_size : nlB.size = 1 := rfl
theorem lineC_size {c : Ck} (h : OkC c) {s : Nat} (hs : s < c.accept.length) : (lineC c s).size ≤ 3400 := by
  obtain ⟨x, y, r, q, i, j, hA⟩ := AtC.of h hs
  have h1 := rowT_size (ynB (c.accept[s]?.getD false)) (numsC c s) hA.big
  have h2 := hA.len
  have h3 := ynB_size (c.accept[s]?.getD false)
  unfold lineC
  rw [ByteArray.size_append, nlB_size]
  omega
theorem head_big {c : Ck} (h : OkC c) : Big [(c.accept.length : Int), c.stack, c.start] := by
  have n2 := h.n2
  have s1 := h.st1
  have s2 := h.st2
  have s3 := h.start
  intro x hx
  simp only [List.mem_cons, List.not_mem_nil, or_false] at hx
  rcases hx with rfl | rfl | rfl <;> omega
theorem headC_size {c : Ck} (h : OkC c) : (headC c).size ≤ 100 := by
  have h1 := rowT_size ckB _ (head_big h)
  unfold headC
  rw [ByteArray.size_append, nlB_size]
  have h2 : ckB.size = 7 := rfl
  simp only [List.length_cons, List.length_nil] at h1
  omega
theorem textT_size {c : Ck} (h : OkC c) : ∀ k, k ≤ c.accept.length → (textT c k).size ≤ 100 + 3400 * k := by
  intro k
  induction k with
  | zero => intro _; exact headC_size h
  | succ k ih =>
    intro hk
    have h1 := ih (by omega)
    have h2 := lineC_size h (s := k) (by omega)
    rw [textT_succ, ByteArray.size_append]
    omega
end Go.Proofs.YtglbmmgancecnaaDoor
