/- What calls leave: results that own their memory, with a code. -/
import Derived.Test.YticmekdfdilcpaaLit
namespace Go.Proofs.Yticmekdfdilcpaa
open Go.RowKit

/-- One new value and a code; base: below which none of its blocks lies. -/
def PostV {α : Type} (E : Nat → EP α) (x : α) (code : Int) (w : World) (e : Ending) (w' : World) : Prop :=
  ∃ v bs, e = .returned (.tuple #[v, .int .i64 code]) ∧ E w.heap.size w' v x bs ∧ Below w.heap.size w w'
/-- .. of which one asks only what it reads as. -/
def PostR {α : Type} (E : Nat → EP α) (x : α) (code : Int) (w : World) (e : Ending) (w' : World) : Prop :=
  ∃ v bs, e = .returned (.tuple #[v, .int .i64 code]) ∧ E 0 w' v x bs ∧ Below w.heap.size w w'
/-- Two new values and a code. -/
def PostVV {α β : Type} (E : Nat → EP α) (F : Nat → EP β) (x : α) (y : β) (code : Int) (w : World) (e : Ending) (w' : World) : Prop :=
  ∃ v bs u cs, e = .returned (.tuple #[v, u, .int .i64 code]) ∧ E w.heap.size w' v x bs ∧ F w.heap.size w' u y cs ∧ (∀ b ∈ bs, b ∉ cs) ∧ Below w.heap.size w w'
def PostRR {α β : Type} (E : Nat → EP α) (F : Nat → EP β) (x : α) (y : β) (code : Int) (w : World) (e : Ending) (w' : World) : Prop :=
  ∃ v bs u cs, e = .returned (.tuple #[v, u, .int .i64 code]) ∧ E 0 w' v x bs ∧ F 0 w' u y cs ∧ Below w.heap.size w w'
end Go.Proofs.Yticmekdfdilcpaa
