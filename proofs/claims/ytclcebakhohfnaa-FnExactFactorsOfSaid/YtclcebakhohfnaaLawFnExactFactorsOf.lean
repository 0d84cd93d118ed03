/- The law FnExactFactorsOf returns true at every input, and each argument reads afterwards as it read before: no condition. -/
import Derived.Test.YtclcebakhohfnaaFacI
import Derived.WalkKit
import Derived.ProofKit
import Derived.OpenShut
import Derived.ShutString
import Derived.ChangeOld
import Derived.Below
namespace Go.Proofs.Ytclcebakhohfnaa
open Go.RowKit
set_option linter.unusedVariables false
set_option maxHeartbeats 1600000 in
set_option maxRecDepth 100000 in
theorem FnExactFactorsOf_walk (a0 : ByteArray) (w : World) (w0 : a0.size ≤ maxLen) :
    Calls Try.prog 3 #[.string a0] w fun e w' => e = .returned (.bool true) ∧ Below w.heap.size w w' := by
  unfold maxLen at w0
  by_cases hs0 : a0.size ≤ 1048576
  case' pos =>
    obtain ⟨n, xs, code, hx, hn, hS, hI⟩ := both_FactorsOf a0 hs0
    have HS := Lib.hid hS
    have HI := Lib.hid hI
    have Hx := Lib.hid hx
    clear hS hI hx
    go_enter Try.func3, Try.ntmps3
    go_wp2_with fail
    refine (HS.out _).mono ?_
    rintro e w1 ⟨A, c, rfl, hr1, hb1⟩
    go_wp2_with fail
    refine (HI.out _).mono ?_
    rintro e w2 ⟨A2, c2, rfl, hr2, hb2⟩
    have hap := rows_apart hr1 hr2
    have hr1b := row_below hr1 hb2
    go_wp2_with fail
    refine (eq_yes_str A2 A n c2 c xs _ hn (Strs.of_row hr2) (Strs.of_row hr1b)).mono ?_
    rintro e w3 ⟨rfl, m, rfl⟩
    go_wp2_with fail
    refine (mark_any_str A2 n c2 w1.heap.size xs (w2.drewN m) hn Hx.out hr2).mono ?_
    rintro e w4 ⟨rfl, hr4, hg4⟩
    have hr1c : w4.ownsRow w.heap.size _ 1 (.slice A n c) n _ := World.ownsRow.kept (w := w2.drewN m) hr1b hg4 hap
    have hb4 : Below w.heap.size w w4 := below_mark hb1 hb2 hr2 m hg4
    go_wp2_with fail
    refine (held_any_str A2 n c2 _ hn (Strs.of_row hr4)).mono ?_
    rintro e w5 ⟨rfl, hb5⟩
    have hb45 := hb4.trans (hb5.mono hb4.size)
    have hr1c5 := row_below hr1c hb5
    have hr4c5 := row_below hr4 hb5
    go_wp2_with fail
    refine (HI.out _).mono ?_
    rintro e w6 ⟨A3, c3, rfl, hr6, hb6⟩
    have hb46 := hb45.trans (hb6.mono hb45.size)
    have hr1d := row_below hr1c5 hb6
    have hr4d := row_below hr4c5 hb6
    go_wp2_with fail
    refine (eq_yes_str A3 A n c3 c xs _ hn (Strs.of_row hr6) (Strs.of_row hr1d)).mono ?_
    rintro e w7 ⟨rfl, m2, rfl⟩
    have hr4e : (w6.drewN m2).ownsRow w1.heap.size _ 1 (.slice A2 n c2) n _ := hr4d
    go_wp2_with fail
    refine (held_any_str A2 n c2 _ hn (Strs.of_row hr4e)).mono ?_
    rintro e w8 ⟨rfl, hb8⟩
    have hb47 := below_drewN hb46 m2
    go_wp2
    go_ret
    exact ⟨rfl, hb47.trans (hb8.mono hb47.size)⟩
  case neg =>
    have h0 : 1048576 < a0.size := by omega
    clear hs0
    go_enter Try.func3, Try.ntmps3
    go_wp2
    go_ret
    exact ⟨rfl, Below.refl _ _⟩
end Go.Proofs.Ytclcebakhohfnaa

namespace Go.Proofs.Ytclcebakhohfnaa.fnExactFactorsOfDone
open Go.ChangeShapes Go.WideShapes Go.ChangeAt Go.RowKit
open Go.ChangeMaps (open_string shut_string)
set_option linter.unusedVariables false

theorem own : ownKnob Try.prog.godebug = none := by kernel_rfl
theorem laidOut : laidOutB Try.prog = true := by kernel_rfl

set_option maxRecDepth 100000 in
theorem lifted (os : Os) (started : os.Started) (H : Type) (enc : TypeId × Value → H) :
    ReturnsInHanded {} Try.checked os 3 .any (Rows.fnExactFactorsOfSpec.pre6 enc Try.prog Try.f3 Rows.fnExactFactorsOfRow.domain false) (Rows.fnExactFactorsOfSpec.post enc Try.prog Try.f3 false true false false) := by
  refine returnsInHanded_of_change (C := Try.checked) own started (by kernel_rfl) Try.func3
    (ChangeSpec.witness6 (enc := enc) (C := Try.checked) false ⟨#[], #[.string ByteArray.empty], []⟩ 8 (by kernel_rfl) (by kernel_rfl) (by kernel_rfl) (by kernel_rfl)) ?_
  intro W base args ds gs before hval0 hW hcnd _
  have hval : ∀ (j : Nat) t v, Try.f3.params[j]? = some t → args[j]? = some v → Value.okWide Try.prog W .any base t v := hval0
  have hW' := hW
  obtain ⟨p, q, hA0, hV, rfl, hfz, hnd⟩ := hW
  have hA : DataW.TrodAll enc Try.prog W 0 (fun _ => true) true Try.f3.params.toList args.toList ds p := hA0
  rw [Try.params3] at hA hval
  obtain ⟨v0, vs0, d0, ds0, p0, q0, hargs, rfl, rfl, h0, r0⟩ := trodAll_cons hA
  obtain ⟨rfl, rfl, rfl⟩ := trodAll_nil r0
  obtain rfl : args = #[v0] := by cases args; simp_all
  obtain ⟨rfl, rfl⟩ := trodVars_none hV
  obtain ⟨a0, rfl, rfl, rfl, w0⟩ := open_string Try.underlying9 (hval 0 9 v0 rfl rfl) h0
  clear hA0 hval0
  refine (FnExactFactorsOf_walk a0 W w0).mono fun e W' ⟨he, bel⟩ => ?_
  subst he
  exact ⟨_, rfl, _, _, _, [], _, [], hW', trodAll_mk1 (shut_bool Try.underlying4 _), (trodAll_cons_mk (shut_string Try.underlying9 w0) trodAll_mk0), rfl, bel.frame _, fun h => by cases h⟩

theorem over : Rows.fnExactFactorsOfRow.holds Try.pinned (OpenSpec.ofChange Rows.fnExactFactorsOfSpec) :=
  OpenClaim.holds_of_wide 3 Try.f3 rfl rfl rfl rfl rfl rfl rfl ⟨rfl, rfl, rfl, rfl, rfl⟩ rfl rfl rfl rfl rfl (by kernel_rfl) Try.func3 (by kernel_rfl)
    (of_decide_eq_true (by kernel_rfl)) (by unfold Func.isWrapper; first | (rw [if_pos (by decide +kernel)]; kernel_rfl) | (rw [if_neg (by decide +kernel)]; exact ⟨rfl, rfl⟩))
    (fun os started H enc _ => lifted os started H enc)

theorem proved : Rows.FnExactFactorsOfSaid := over
#print axioms proved
end Go.Proofs.Ytclcebakhohfnaa.fnExactFactorsOfDone
