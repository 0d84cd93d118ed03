/- The depth behind a symbol, of the model and of the program. -/
import Derived.Test.YtjelmiladekfjaaSym
import Derived.Test.YtjelmiladekfjaaTab
import Derived.Lib.Hide
namespace Go.Proofs.Ytjelmiladekfjaa
open Go.RowKit
set_option linter.unusedVariables false

def deepT (n : Int) : Int := if n ≤ 1 then 1 else if n = 2 ∨ n = 3 then -1 else 0
theorem impl_deepenT (n : Int) (w : World) (h : 0 ≤ n ∧ n ≤ 5) :
    Calls Try.prog 35 #[.int .u8 n] w fun e w' => e = .returned (.int .i64 (deepT n)) ∧ w = w' := by
  rcases six n h with rfl | rfl | rfl | rfl | rfl | rfl
  all_goals
    go_enter Try.func35, Try.ntmps35
    go_wp2_with (first
      | (go_at_call 54; refine (impl_isCall _ _).mono ?_; rintro e w' ⟨rfl, rfl⟩)
      | (go_at_call 39; refine (impl_isReturn _ _ (by decide)).mono ?_; rintro e w' ⟨rfl, rfl⟩))
    go_ret
    exact ⟨rfl, rfl⟩

/-- How many texts of n symbols go on with s where d calls are open, as the program reckons it: the place of the table is n * 22 + the depth. -/
theorem cb_nat {n d s : Nat} (hs : s ≤ 5) : (d : Int) + deepT s < 0 ∧ cb n d s = 0 ∨ ∃ e : Nat, (d : Int) + deepT s = (e : Int) ∧ cb n d s = wy n e ∧ e ≤ d + 1 := by
  obtain rfl | rfl | rfl | rfl | rfl | rfl : s = 0 ∨ s = 1 ∨ s = 2 ∨ s = 3 ∨ s = 4 ∨ s = 5 := by omega
  · exact .inr ⟨d + 1, by simp [deepT], by simp [cb], by omega⟩
  · exact .inr ⟨d + 1, by simp [deepT], by simp [cb], by omega⟩
  · by_cases h : d = 0
    · subst h; exact .inl ⟨by decide, by simp [cb]⟩
    · exact .inr ⟨d - 1, by simp [deepT]; omega, by simp [cb, h], by omega⟩
  · by_cases h : d = 0
    · subst h; exact .inl ⟨by decide, by simp [cb]⟩
    · exact .inr ⟨d - 1, by simp [deepT]; omega, by simp [cb, h], by omega⟩
  · exact .inr ⟨d, by simp [deepT], by simp [cb], by omega⟩
  · exact .inr ⟨d, by simp [deepT], by simp [cb], by omega⟩

/-- What the table holds in its first rows. -/
def TabAt (w : World) (B l : Nat) : Prop := ∀ r d : Nat, r < l → r ≤ 20 → d ≤ 21 → w.cell? ⟨B, r * 22 + d, none⟩ = some (.int .i64 (wy r d : Int))

set_option maxHeartbeats 1600000 in
theorem impl_behind {B l n d s : Nat} (w : World) (ht : TabAt w B l) (hn : n < l) (hn2 : n ≤ 20) (hd : d ≤ 20) (hs : s ≤ 5) :
    Calls Try.prog 34 #[.pointer (some ⟨B, 0, none⟩), .int .u8 (s : Int), .int .i64 (n : Int), .int .i64 (d : Int)] w fun e w' => e = .returned (.int .i64 (cb n d s : Int)) ∧ w = w' := by
  rcases cb_nat (n := n) (d := d) hs with ⟨h1, h2⟩ | ⟨e, h1, h2, h3⟩
  · rw [h2]
    have hs' : 0 ≤ (s : Int) ∧ (s : Int) ≤ 5 := ⟨by omega, by omega⟩
    have hdl : -1 ≤ deepT s ∧ deepT s ≤ 1 := by unfold deepT; split <;> (try split) <;> omega
    obtain ⟨q, hq⟩ : ∃ q, q = deepT s := ⟨_, rfl⟩
    have Hq := Lib.hid hq
    rw [← hq] at h1 hdl
    clear hq h2
    go_enter Try.func34, Try.ntmps34
    go_wp2_with (go_at_call 35; refine (impl_deepenT _ _ hs').mono ?_; rintro e w' ⟨rfl, rfl⟩; rw [← Hq.out])
    go_ret
    exact ⟨rfl, rfl⟩
  · rw [h2]
    have hs' : 0 ≤ (s : Int) ∧ (s : Int) ≤ 5 := ⟨by omega, by omega⟩
    obtain ⟨q, hq⟩ : ∃ q, q = deepT s := ⟨_, rfl⟩
    have Hq := Lib.hid hq
    rw [← hq] at h1
    have hc := ht n e hn hn2 (by omega)
    have hq2 : q = (e : Int) - d := by omega
    subst hq2
    have hwr : IntKind.i64.wrap ((d : Int) + ((e : Int) - d)) = (e : Int) := by
      rw [show (d : Int) + ((e : Int) - d) = (e : Int) by omega]
      unfold IntKind.wrap IntKind.signed IntKind.bits; simp; omega
    clear h1 h2 hq
    go_enter Try.func34, Try.ntmps34
    go_wp2_with (go_at_call 35; refine (impl_deepenT _ _ hs').mono ?_; rintro e w' ⟨rfl, rfl⟩; rw [← Hq.out])
    go_ret
    exact ⟨rfl, rfl⟩
end Go.Proofs.Ytjelmiladekfjaa
