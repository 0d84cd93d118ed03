/- Checkers that look at no mark: DepthChecker's and CountChecker's. -/
import Derived.Test.YtfaiifiohomdmaaLit
namespace Go.Proofs.Ytfaiifiohomdmaa
open Go.RowKit
set_option linter.unusedVariables false

/-- n states; the one numbered d goes to f d s at the symbol s. -/
def plainCk (n : Nat) (acc : Nat → Bool) (f : Nat → Nat → Int) : Ck :=
  { stack := 1, start := 0, accept := (List.range n).map acc, call := (List.range n).map fun d => [(f d 0, 0), (f d 1, 0)],
    ret := (List.range n).map fun d => [[f d 2, f d 2], [f d 3, f d 3]], inner := (List.range n).map fun d => [f d 4, f d 5] }
theorem szL_map {α : Type} (g : α → Nat) (k : Nat) (l : List Nat) (h : Nat → α) (hk : ∀ d, g (h d) = k) : szL g (l.map h) = k * l.length := by
  induction l with
  | nil => rfl
  | cons a l ih =>
    have e : szL g (List.map h (a :: l)) = g (h a) + szL g (List.map h l) := rfl
    rw [e, ih, hk, List.length_cons, Nat.mul_add, Nat.mul_one, Nat.add_comm]
theorem plain_bd (n : Nat) (acc : Nat → Bool) (f : Nat → Nat → Int) (h : n ≤ 41) : BdC (plainCk n acc f) := by
  have hb : n ≤ 1048576 := by omega
  refine ⟨?_, ?_, ?_, ?_, ?_⟩
  · simpa [plainCk, Bd1] using hb
  · simpa [plainCk, Bd2, Bd1] using hb
  · simpa [plainCk, Bd3, Bd2, Bd1] using hb
  · simpa [plainCk, Bd2, Bd1] using hb
  · simp only [plainCk, szC, List.length_map, List.length_range]
    rw [szL_map lenP 4 _ _ (fun d => rfl), szL_map (szL lenI) 4 _ _ (fun d => rfl), szL_map lenI 2 _ _ (fun d => rfl)]
    simp only [List.length_range]
    omega

/-- Where DepthChecker's state d goes. -/
def depthTo (m : Nat) (d s : Nat) : Int := if m < d then d else if s < 2 then d + 1 else if s < 4 then (d - 1 : Nat) else d
def depthCk (m : Nat) : Ck := plainCk (m + 2) (fun d => decide (d ≤ m)) (depthTo m)
theorem depth_bd (m : Nat) (h : m ≤ 9) : BdC (depthCk m) := plain_bd _ _ _ (by omega)
/-- Where CountChecker's state d goes. -/
def countTo (k m : Nat) (d s : Nat) : Int := if s = k then ((d + 1) % m : Nat) else d
def countCk (k m : Nat) : Ck := plainCk m (fun d => decide (d = 0)) (countTo k m)
theorem count_bd (k m : Nat) (h : m ≤ 40) : BdC (countCk k m) := plain_bd _ _ _ (by omega)
/-- The checker of the failures. -/
def nilCk : Ck := { stack := 0, start := 0, accept := [], call := [], ret := [], inner := [] }
theorem nil_bd : BdC nilCk := by refine ⟨?_, ?_, ?_, ?_, ?_⟩ <;> simp [nilCk, Bd1, Bd2, Bd3, szC, szL]
theorem nil_ck (base : Nat) (w : World) : CkE base w (.agg #[.int .i64 0, .int .i64 0, .slice none 0 0, .slice none 0 0, .slice none 0 0, .slice none 0 0]) nilCk [] := by
  have hr : ∀ (e : TypeId) (k : Nat), w.ownsRow base e k (.slice none 0 0) 0 [] := fun e k => World.ownsRow_nil _ _ _ _
  refine ⟨_, _, _, _, [], [], [], [], rfl, ⟨hr _ _, rfl⟩, ?_, ?_, ?_, rfl, List.nodup_nil⟩
  all_goals exact ⟨[], [], hr _ _, rfl, fun j x u c h => by simp [nilCk] at h, rfl, List.nodup_nil⟩
end Go.Proofs.Ytfaiifiohomdmaa
