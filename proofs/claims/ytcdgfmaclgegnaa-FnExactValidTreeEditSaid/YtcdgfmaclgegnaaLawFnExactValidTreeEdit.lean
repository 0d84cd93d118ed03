/- The law FnExactValidTreeEdit returns true at every input, and the argument reads afterwards as it read before: no condition. -/
import Derived.Test.YtcdgfmaclgegnaaEdI
import Derived.Test.YtcdgfmaclgegnaaEdC
import Derived.WalkKit
import Derived.ProofKit
import Derived.OpenShut
import Derived.ShutString
import Derived.ChangeOld
import Derived.Below
namespace Go.Proofs.Ytcdgfmaclgegnaa
open Go.RowKit
set_option linter.unusedVariables false

theorem spec_ValidTreeEdit (k a t : Int) (s : ByteArray) (w : World) (hs : s.size ≤ 1048576) : Calls Try.prog 5 #[.agg #[.int .i64 k, .int .i64 a, .int .i64 t, .string s]] w (TupPost (.bool (edB k a t s)) w) := by
  have hx := Bx.new w 26 #[.int .i64 k, .int .i64 a, .int .i64 t, .string s]
  have hB := (Below.refl w.heap.size w).alloc (Nat.le_refl _) (.cells #[.int .i64 k, .int .i64 a, .int .i64 t, .string s] 26)
  have H := Lib.hid (spec_edit k a t s _ hs hx)
  generalize edB k a t s = R at *
  clear hx
  go_enter Try.func5, Try.ntmps5
  go_wp2_with fail
  refine H.out.mono ?_
  rintro e w1 ⟨rfl, hb⟩
  go_wp2
  go_ret
  exact ⟨rfl, hB.trans (hb.mono hB.size)⟩
set_option maxHeartbeats 3200000 in
set_option maxRecDepth 100000 in
theorem FnExactValidTreeEdit_walk (k a t : Int) (s : ByteArray) (w : World) (ws : s.size ≤ maxLen) :
    Calls Try.prog 3 #[.agg #[.int .i64 k, .int .i64 a, .int .i64 t, .string s]] w fun e w' => e = .returned (.bool true) ∧ Below w.heap.size w w' := by
  unfold maxLen at ws
  have hx := Bx.new w 23 #[.int .i64 k, .int .i64 a, .int .i64 t, .string s]
  have hB := (Below.refl w.heap.size w).alloc (Nat.le_refl _) (.cells #[.int .i64 k, .int .i64 a, .int .i64 t, .string s] 23)
  obtain ⟨c0, c1, c2, c3, cl⟩ := id hx.all4
  have HX := Lib.hid (And.intro hx hB)
  clear hx hB
  have hz := fun W => sz_edit k a t s 1048576 W (Nat.le_refl _) ws
  by_cases hs : s.size ≤ 1048576
  case neg =>
    simp only [dec_no hs] at hz
    have HZ := Lib.hid hz
    clear hz hs
    go_enter Try.func3, Try.ntmps3
    go_wp2_with fail
    refine (HZ.out _).mono ?_
    rintro e w1 ⟨rfl, hb⟩
    go_wp2
    go_ret
    exact ⟨rfl, HX.out.2.trans (hb.mono HX.out.2.size)⟩
  simp only [dec_yes hs] at hz
  obtain ⟨l, hl⟩ : ∃ l, l = 1048576 - s.size := ⟨_, rfl⟩
  simp only [← hl] at hz
  have HZ := Lib.hid hz
  have HT := Lib.hid fun W => to_edit k a t s W
  have HS := Lib.hid fun W => spec_ValidTreeEdit k a t s W hs
  have HI := Lib.hid fun W => impl_ValidTreeEdit k a t s W hs
  generalize edB k a t s = R at *
  clear hz hs hl
  go_enter Try.func3, Try.ntmps3
  go_wp2_with fail
  refine (HZ.out _).mono ?_
  rintro e w1 ⟨rfl, hb1⟩
  clear c0 c1 c2 c3 cl
  have x1 := HX.out.1.later hb1
  have hB1 := HX.out.2.trans (hb1.mono HX.out.2.size)
  obtain ⟨c0, c1, c2, c3, cl⟩ := id x1.all4
  go_wp2_with fail
  refine (HT.out _).mono ?_
  rintro e w2 ⟨rfl, hb2⟩
  clear c0 c1 c2 c3 cl
  replace x1 := x1.later hb2
  replace hB1 := hB1.trans (hb2.mono hB1.size)
  go_wp2_with fail
  refine (HS.out _).mono ?_
  rintro e w3 ⟨rfl, hb3⟩
  replace x1 := x1.later hb3
  replace hB1 := hB1.trans (hb3.mono hB1.size)
  obtain ⟨c0, c1, c2, c3, cl⟩ := id x1.all4
  go_wp2_with fail
  refine (HT.out _).mono ?_
  rintro e w4 ⟨rfl, hb4⟩
  replace hB1 := hB1.trans (hb4.mono hB1.size)
  go_wp2_with fail
  refine (HI.out _).mono ?_
  rintro e w5 ⟨rfl, hb5⟩
  replace hB1 := hB1.trans (hb5.mono hB1.size)
  go_wp2
  go_ret
  exact ⟨rfl, hB1⟩
end Go.Proofs.Ytcdgfmaclgegnaa

namespace Go.Proofs.Ytcdgfmaclgegnaa.fnExactValidTreeEditDone
open Go.ChangeShapes Go.WideShapes Go.ChangeAt Go.RowKit
open Go.ChangeMaps (open_string shut_string)
set_option linter.unusedVariables false

theorem own : ownKnob Try.prog.godebug = none := by kernel_rfl
theorem laidOut : laidOutB Try.prog = true := by kernel_rfl

set_option maxRecDepth 100000 in
theorem lifted (os : Os) (started : os.Started) (H : Type) (enc : TypeId × Value → H) :
    ReturnsInHanded {} Try.checked os 3 .any (Rows.fnExactValidTreeEditSpec.pre6 enc Try.prog Try.f3 Rows.fnExactValidTreeEditRow.domain false) (Rows.fnExactValidTreeEditSpec.post enc Try.prog Try.f3 false true false false) := by
  refine returnsInHanded_of_change (C := Try.checked) own started (by kernel_rfl) Try.func3
    (ChangeSpec.witness6 (enc := enc) (C := Try.checked) false ⟨#[], #[.agg #[.int .i64 0, .int .i64 0, .int .i64 0, .string ByteArray.empty]], []⟩ 8 (by kernel_rfl) (by kernel_rfl) (by kernel_rfl) (by kernel_rfl)) ?_
  intro W base args ds gs before hval0 hW hcnd _
  have hval : ∀ (j : Nat) t v, Try.f3.params[j]? = some t → args[j]? = some v → Value.okWide Try.prog W .any base t v := hval0
  have hW' := hW
  obtain ⟨p, q, hA0, hV, rfl, hfz, hnd⟩ := hW
  have hA : DataW.TrodAll enc Try.prog W 0 (fun _ => true) true Try.f3.params.toList args.toList ds p := hA0
  rw [Try.params3] at hA hval
  obtain ⟨v0, vs0, d0, ds0, p0, q0, hargs, rfl, rfl, h0, r0⟩ := trodAll_cons hA
  obtain ⟨rfl, rfl, rfl⟩ := trodAll_nil r0
  obtain rfl : args = #[v0] := by cases args; simp_all
  obtain ⟨rfl, rfl⟩ := trodVars_none hV
  obtain ⟨k, a, t, s, rfl, _, ws⟩ := open_edit (hval 0 23 v0 rfl rfl) h0
  have k0 := h0
  have lt0 : ∀ x ∈ p0, x.block < W.heap.size := by obtain ⟨m, hm⟩ := k0; exact DataW.trod_lt m _ _ _ hm
  clear hA0 hval0
  refine (FnExactValidTreeEdit_walk k a t s W ws).mono fun e W' ⟨he, bel⟩ => ?_
  subst he
  exact ⟨_, rfl, _, _, _, [], _, [], hW', trodAll_mk1 (shut_bool Try.underlying4 _), (trodAll_cons_mk (Below.trod laidOut (by kernel_rfl) (of_decide_eq_true (by kernel_rfl)) k0 bel lt0) trodAll_mk0), rfl, bel.frame _, fun h => by cases h⟩

theorem over : Rows.fnExactValidTreeEditRow.holds Try.pinned (OpenSpec.ofChange Rows.fnExactValidTreeEditSpec) :=
  OpenClaim.holds_of_wide 3 Try.f3 rfl rfl rfl rfl rfl rfl rfl ⟨rfl, rfl, rfl, rfl, rfl⟩ rfl rfl rfl rfl rfl (by kernel_rfl) Try.func3 (by kernel_rfl)
    (of_decide_eq_true (by kernel_rfl)) (by unfold Func.isWrapper; first | (rw [if_pos (by decide +kernel)]; kernel_rfl) | (rw [if_neg (by decide +kernel)]; exact ⟨rfl, rfl⟩))
    (fun os started H enc _ => lifted os started H enc)

theorem proved : Rows.FnExactValidTreeEditSaid := over
#print axioms proved
end Go.Proofs.Ytcdgfmaclgegnaa.fnExactValidTreeEditDone
