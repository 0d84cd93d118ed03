/- A slice literal's value, as a value that owns its block. -/
import Derived.Test.YtglbmmgancecnaaDoorBox
namespace Go.Proofs.YtglbmmgancecnaaDoor
open Go.RowKit

def LitF (base : Nat) (T : TypeId) (cs : Array Value) (n : Nat) : EP Unit := fun w v _ bs => ∃ b, v = .slice (some ⟨b, 0, none⟩) n n ∧ Bx w b T cs ∧ bs = [b] ∧ base ≤ b
theorem litf_ok (base : Nat) (T : TypeId) (cs : Array Value) (n : Nat) : EP.Ok base (LitF base T cs n) where
  kept := by rintro w w' v x bs ⟨b, rfl, h, rfl, hb⟩ hs; exact ⟨b, rfl, h.same (hs b (by simp)), rfl, hb⟩
  lt := by
    rintro w v x bs ⟨b, rfl, h, rfl, hb⟩ c hc
    rw [List.mem_singleton.1 hc]
    exact ⟨hb, h.lt⟩
  nodup := by rintro w v x bs ⟨b, rfl, h, rfl, hb⟩; simp
theorem LitF.new {base : Nat} (T : TypeId) (cs : Array Value) (n : Nat) (w : World) (h : base ≤ w.heap.size) : LitF base T cs n (w.alloc (.cells cs T)) (.slice (some ⟨w.heap.size, 0, none⟩) n n) () [w.heap.size] := ⟨w.heap.size, rfl, Bx.new _ _ _, rfl, h⟩
end Go.Proofs.YtglbmmgancecnaaDoor
