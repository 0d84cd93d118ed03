/- Pairs of checkers, of the program. -/
import Derived.Test.YticmekdfdilcpaaProd
import Derived.Test.YticmekdfdilcpaaBelow
import Derived.IntWalk
namespace Go.Proofs.Yticmekdfdilcpaa
open Go.RowKit
set_option linter.unusedVariables false

theorem mul_small {a b : Int} (ha : 0 ≤ a ∧ a ≤ 1000) (hb : 0 ≤ b ∧ b ≤ 1000) : 0 ≤ a * b ∧ a * b ≤ 1000000 := by
  obtain ⟨x, rfl⟩ := Int.eq_ofNat_of_zero_le ha.1
  obtain ⟨y, rfl⟩ := Int.eq_ofNat_of_zero_le hb.1
  have h : x * y ≤ 1000 * 1000 := Nat.mul_le_mul (by omega) (by omega)
  constructor
  · exact Int.mul_nonneg (by omega) (by omega)
  · have : ((x * y : Nat) : Int) ≤ 1000000 := by omega
    simpa using this
/-- A number that is small. -/
def Sm (a : Int) : Prop := 0 ≤ a ∧ a ≤ 1000
theorem wrap_mul {a b : Int} (ha : Sm a) (hb : Sm b) : IntKind.i64.wrap (a * b) = a * b := by have := mul_small ha hb; exact IntWalk.i64_in _ (by omega)
theorem wrap_mad {a b c : Int} (ha : Sm a) (hb : Sm b) (hc : Sm c) : IntKind.i64.wrap (a * b + c) = a * b + c := by have := mul_small ha hb; unfold Sm at hc; exact IntWalk.i64_in _ (by omega)

/-- A row without its last element. -/
theorem ints_drop {base : Nat} {g n k : Nat} {xs : List Int} {bs : List Nat} {w : World} (h : IntsE base w (.slice (some ⟨g, 0, none⟩) n k) xs bs) (hn : xs.length = n) (h0 : 0 < n) : IntsE base w (.slice (some ⟨g, 0, none⟩) (n - 1) k) xs.dropLast bs := by
  refine ⟨?_, h.2⟩
  have h1 := h.1
  rw [hn] at h1
  have hl := h1.1
  have hd : xs.dropLast.length = n - 1 := by rw [List.length_dropLast, hn]
  rw [hd]
  have hf : (xs.dropLast.flatMap fun x => [Value.int .i64 x]) = (xs.flatMap fun x => [Value.int .i64 x]).take (n - 1) := by
    have e : ∀ ys : List Int, (ys.flatMap fun x => [Value.int .i64 x]) = ys.map fun x => Value.int .i64 x := fun ys => by
      induction ys with
      | nil => rfl
      | cons y ys ih => rw [List.flatMap_cons, ih]; rfl
    rw [e, e, List.dropLast_eq_take, List.map_take, hn]
  refine ⟨by rw [hf, List.length_take, hl]; omega, ?_⟩
  rcases h1.2 with ⟨h2, _⟩ | ⟨g', cap, cur, hv, hb, hg, hnc, hcm, hcs, htk⟩
  · cases h2
  · simp only [Value.slice.injEq, Option.some.injEq, Addr.mk.injEq, and_true, true_and] at hv
    obtain ⟨rfl, rfl⟩ := hv
    refine .inr ⟨g, k, cur, rfl, hb, hg, by omega, hcm, hcs, ?_⟩
    rw [hf, ← htk, List.take_take]
    congr 1
    omega
theorem own_cap {w : World} {base g n k : Nat} {e : TypeId} {size : Nat} {xs : List Value} (h : w.ownsRow base e size (.slice (some ⟨g, 0, none⟩) n k) n xs) : n ≤ k := by
  rcases h.2 with ⟨h2, _⟩ | ⟨g', cap, cur, hv, _, _, hnc, _⟩
  · cases h2
  · simp only [Value.slice.injEq, Option.some.injEq, Addr.mk.injEq, and_true, true_and] at hv
    obtain ⟨rfl, rfl⟩ := hv
    exact hnc
/-- The elements are small. -/
def SmL (xs : List Int) : Prop := ∀ x ∈ xs, Sm x
def SmP (xs : List (Int × Int)) : Prop := ∀ x ∈ xs, Sm x.1 ∧ Sm x.2
theorem fm_cf (f : FuncId) (fn : Func) (c : Code) (hf : Try.prog.funcs[f]? = some fn) (hname : (fn.name == "runtime.NumGoroutine") = false) (hb : fn.body = some c) (args : Array Value) (w : World) : (callFunc f args).run Try.prog w = .ok (.enter f args) w := by
  have h1 : fn.name ≠ "runtime.NumGoroutine" := by simpa using hname
  simp [callFunc, hf, h1, hb]
theorem sml_last {xs : List Int} (h : SmL xs) (hn : 1 ≤ xs.length) : Sm (xs.getLastD 0) := by
  rw [List.getLastD_eq_getLast?, List.getLast?_eq_getElem?, List.getElem?_eq_getElem (by omega)]
  exact h _ (List.getElem_mem _)

end Go.Proofs.Yticmekdfdilcpaa
