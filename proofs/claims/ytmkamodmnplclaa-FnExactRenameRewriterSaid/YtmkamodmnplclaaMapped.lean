/- mapped of the program: what a function makes of each element. -/
import Derived.Test.YtmkamodmnplclaaGrow
import Derived.Test.YtmkamodmnplclaaBox
import Derived.Test.YtmkamodmnplclaaRows3
import Derived.Deep.AppendLies
import Derived.OwnWalk
namespace Go.Proofs.Ytmkamodmnplclaa
open Go.RowKit
set_option linter.unusedVariables false

/-- What has been made of the first j elements. -/
def mapT {α β : Type} (F : α → β) (xs : List α) (j : Nat) : List β := (xs.take j).map F
theorem map_take_succ {α β : Type} {xs : List α} {j : Nat} {x : α} (F : α → β) (h : xs[j]? = some x) : mapT F xs (j + 1) = mapT F xs j ++ [F x] := by
  unfold mapT; rw [List.take_add_one, h]; simp
theorem len_map_take {α β : Type} {xs : List α} {j : Nat} (F : α → β) (h : j ≤ xs.length) : (mapT F xs j).length = j := by unfold mapT; simp; omega
theorem one_sing {v : Value} (h : v.oneCell' = true) : ∀ u ∈ [v], u.oneCell' = true := by intro u hu; rw [List.mem_singleton.1 hu]; exact h
theorem one_pair {x y : Int} : ∀ u ∈ [Value.int .i64 x, Value.int .i64 y], u.oneCell' = true := by
  intro u hu
  rcases List.mem_cons.1 hu with rfl | hu
  · rfl
  · rw [List.mem_singleton.1 hu]; rfl
theorem below_grown {w w' : World} (h : w.grownBy w' none) : Below w.heap.size w w' := ⟨h.os, h.tape, h.output, h.size, fun k hk => h.block k hk (by simp)⟩

end Go.Proofs.Ytmkamodmnplclaa
