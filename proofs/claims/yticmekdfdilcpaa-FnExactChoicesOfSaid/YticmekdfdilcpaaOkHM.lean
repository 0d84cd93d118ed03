/- Whether choices are right, in plain terms. -/
import Derived.Test.YticmekdfdilcpaaRisP
import Derived.Test.YticmekdfdilcpaaCh
namespace Go.Proofs.Yticmekdfdilcpaa
open Go.RowKit
set_option linter.unusedVariables false

/-- Whether what a state does at one kind is right. -/
def kH (n st : Int) (p : List (Int × Int)) (q : List Int) (r : List (List Int)) : Bool := risP p n st && (risB q n && (decide ((r.length : Int) = st + 1) && r.all fun x => risB x n))
def twoH (n st : Int) (cs : List (List (Int × Int))) (rs : List (List (List Int))) (ns : List (List Int)) (k : Nat) : Bool := (List.range k).all fun j => kH n st (cs[j]?.getD []) (ns[j]?.getD []) (rs[j]?.getD [])
def stH (n st : Int) (cs : List (List (Int × Int))) (rs : List (List (List Int))) (ns : List (List Int)) : Bool := decide (cs.length = 2) && (decide (rs.length = 2) && (decide (ns.length = 2) && twoH n st cs rs ns 2))
def allH (n : Nat) (st : Int) (ca : List (List (List (Int × Int)))) (re : List (List (List (List Int)))) (inn : List (List (List Int))) (k : Nat) : Bool :=
  (List.range k).all fun s => stH n st (ca[s]?.getD []) (re[s]?.getD []) (inn[s]?.getD [])
def hdH (st : Int) (starts : List Int) (n nb nr ni : Nat) : Bool := rngB n 1 5 && (rngB st 1 4 && (risB starts n && (decide (nb = n) && (decide (nr = n) && decide (ni = n)))))
def okH (c : Ch) : Bool := hdH c.stack c.starts c.accept.length c.call.length c.ret.length c.inner.length && allH c.accept.length c.stack c.call c.ret c.inner c.accept.length
theorem rangeH_succ (f : Nat → Bool) (k : Nat) : (List.range (k + 1)).all f = ((List.range k).all f && f k) := by
  rw [List.range_succ, List.all_append]
  simp
theorem rangeH_no {f : Nat → Bool} {k n : Nat} (hk : k < n) (h : f k = false) : (List.range n).all f = false := by
  rw [List.all_eq_false]
  exact ⟨k, List.mem_range.2 hk, by simp [h]⟩
theorem allH_succ {n : Nat} {st : Int} {ca : List (List (List (Int × Int)))} {re : List (List (List (List Int)))} {inn : List (List (List Int))} {k : Nat} {cs : List (List (Int × Int))} {rs : List (List (List Int))} {ns : List (List Int)}
    (h1 : ca[k]? = some cs) (h2 : re[k]? = some rs) (h3 : inn[k]? = some ns) : allH n st ca re inn (k + 1) = (allH n st ca re inn k && stH n st cs rs ns) := by
  rw [allH, rangeH_succ, h1, h2, h3]; rfl
theorem allH_no {n : Nat} {st : Int} {ca : List (List (List (Int × Int)))} {re : List (List (List (List Int)))} {inn : List (List (List Int))} {k m : Nat} {cs : List (List (Int × Int))} {rs : List (List (List Int))} {ns : List (List Int)}
    (h1 : ca[k]? = some cs) (h2 : re[k]? = some rs) (h3 : inn[k]? = some ns) (hk : k < m) (h : stH n st cs rs ns = false) : allH n st ca re inn m = false := by
  rw [allH]
  exact rangeH_no hk (by rw [h1, h2, h3]; exact h)
theorem twoH_succ {n st : Int} {cs : List (List (Int × Int))} {rs : List (List (List Int))} {ns : List (List Int)} {k : Nat} {p : List (Int × Int)} {q : List Int} {r : List (List Int)}
    (h1 : cs[k]? = some p) (h2 : ns[k]? = some q) (h3 : rs[k]? = some r) : twoH n st cs rs ns (k + 1) = (twoH n st cs rs ns k && kH n st p q r) := by
  rw [twoH, rangeH_succ, h1, h2, h3]; rfl
theorem twoH_no {n st : Int} {cs : List (List (Int × Int))} {rs : List (List (List Int))} {ns : List (List Int)} {k m : Nat} {p : List (Int × Int)} {q : List Int} {r : List (List Int)}
    (h1 : cs[k]? = some p) (h2 : ns[k]? = some q) (h3 : rs[k]? = some r) (hk : k < m) (h : kH n st p q r = false) : twoH n st cs rs ns m = false := by
  rw [twoH]
  exact rangeH_no hk (by rw [h1, h2, h3]; exact h)
/-- The same in the program's order. -/
def stP (n st : Int) (cs : List (List (Int × Int))) (rs : List (List (List Int))) (ns : List (List Int)) : Bool :=
  decide (cs.length = 2) && (decide (rs.length = 2) && (decide (ns.length = 2) && (cs.all (fun p => risP p n st) && (rs.all (fun r => decide ((r.length : Int) = st + 1)) && (ns ++ rs.flatten).all (fun x => risB x n)))))
theorem stP_eq (n st : Int) (cs : List (List (Int × Int))) (rs : List (List (List Int))) (ns : List (List Int)) : stP n st cs rs ns = stH n st cs rs ns := by
  unfold stP stH
  by_cases h1 : cs.length = 2
  · by_cases h2 : rs.length = 2
    · by_cases h3 : ns.length = 2
      · match cs, rs, ns, h1, h2, h3 with
        | [a, b], [c, d], [e, f], _, _, _ =>
          have hr : List.range 2 = [0, 1] := rfl
          simp only [twoH, hr, List.all_cons, List.all_nil, List.getElem?_cons_zero, List.getElem?_cons_succ, Option.getD_some, Bool.and_true, kH, List.flatten_cons, List.flatten_nil, List.append_nil, List.cons_append, List.nil_append, List.all_append, List.length_cons, List.length_nil]
          generalize risP a n st = x1
          generalize risP b n st = x2
          generalize risB e n = x3
          generalize risB f n = x4
          generalize decide ((c.length : Int) = st + 1) = x5
          generalize decide ((d.length : Int) = st + 1) = x6
          generalize (c.all fun x => risB x n) = x7
          generalize (d.all fun x => risB x n) = x8
          revert x1 x2 x3 x4 x5 x6 x7 x8
          decide
      · simp [h3]
    · simp [h2]
  · simp [h1]
end Go.Proofs.Yticmekdfdilcpaa
