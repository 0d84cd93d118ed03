/- The law FnExactEditTree returns true at every input, and the arguments read afterwards as they read before; the library's variable errors.errorType holds what the program lays: its tied card. -/
import Derived.Test.YtcdgfmaclgegnaaDoorEdL
import Derived.Test.YtcdgfmaclgegnaaDoorLaidE
import Derived.Test.YtcdgfmaclgegnaaDoorTie
import Derived.Test.YtcdgfmaclgegnaaDoorCards
import Derived.LaidMore
import Derived.Stop.Joined
import Derived.SevenTiedAt
import Derived.Test.YtcdgfmaclgegnaaDoorEdC
import Derived.WalkKit
import Derived.ProofKit
import Derived.OpenShut
import Derived.ShutString
import Derived.ChangeOld
import Derived.Below
namespace Go.Proofs.YtcdgfmaclgegnaaDoor
open Go.RowKit
set_option linter.unusedVariables false

set_option maxHeartbeats 3200000 in
set_option maxRecDepth 100000 in
theorem FnExactEditTree_walk (b : ByteArray) (k a t : Int) (s : ByteArray) (w : World) (wb : b.size ≤ maxLen) (ws : s.size ≤ maxLen) (hg : w.cell? ⟨0, 0, none⟩ = some (.iface 142 (.agg #[.pointer (some ⟨5, 47, none⟩)]))) :
    Calls Tryd.prog 4 #[.string b, .agg #[.int .i64 k, .int .i64 a, .int .i64 t, .string s]] w fun e w' => e = .returned (.bool true) ∧ Below w.heap.size w w' := by
  unfold maxLen at wb ws
  have hx := Bx.new w 23 #[.int .i64 k, .int .i64 a, .int .i64 t, .string s]
  have hB := (Below.refl w.heap.size w).alloc (Nat.le_refl _) (.cells #[.int .i64 k, .int .i64 a, .int .i64 t, .string s] 23)
  obtain ⟨c0, c1, c2, c3, cl⟩ := id hx.all4
  have HX := Lib.hid (And.intro hx hB)
  have Hg := Lib.hid (And.intro hg (World.block_lt_of_cell? _ _ hg))
  clear hx hB hg
  by_cases hb : b.size ≤ 1048576
  case neg =>
    have hbn : 1048576 < b.size := by omega
    have hbi : decide ((1048576 : Int) < (b.size : Int)) = true := decide_eq_true (by omega)
    clear hb
    go_enter Tryd.func4, Tryd.ntmps4
    go_wp2
    go_ret
    exact ⟨rfl, HX.out.2⟩
  have hbn : ¬ (1048576 < b.size) := by omega
  have hbi : decide ((1048576 : Int) < (b.size : Int)) = false := decide_eq_false (by omega)
  have hz := fun W => sz_edit k a t s 1048576 W (Nat.le_refl _) ws
  by_cases hs : s.size ≤ 1048576
  case neg =>
    simp only [dec_no hs] at hz
    have HZ := Lib.hid hz
    clear hz hs
    go_enter Tryd.func4, Tryd.ntmps4
    go_wp2_with fail
    refine (HZ.out _).mono ?_
    rintro e w1 ⟨rfl, hb⟩
    go_wp2
    go_ret
    exact ⟨rfl, HX.out.2.trans (hb.mono HX.out.2.size)⟩
  simp only [dec_yes hs] at hz
  obtain ⟨l, hl⟩ : ∃ l, l = 1048576 - s.size := ⟨_, rfl⟩
  simp only [← hl] at hz
  have HZ := Lib.hid hz
  have HT := Lib.hid fun W => to_edit k a t s W
  obtain ⟨r, c, hS, hI⟩ := both_EditTree k a t b s hb hs
  unfold madV at hS hI
  have HS := Lib.hid hS
  have HI := Lib.hid hI
  clear hz hs hl hS hI hb
  go_enter Tryd.func4, Tryd.ntmps4
  go_wp2_with fail
  refine (HZ.out _).mono ?_
  rintro e w1 ⟨rfl, hb1⟩
  clear c0 c1 c2 c3 cl
  have x1 := HX.out.1.later hb1
  have hB1 := HX.out.2.trans (hb1.mono HX.out.2.size)
  obtain ⟨c0, c1, c2, c3, cl⟩ := id x1.all4
  go_wp2_with fail
  refine (HT.out _).mono ?_
  rintro e w2 ⟨rfl, hb2⟩
  clear c0 c1 c2 c3 cl
  replace x1 := x1.later hb2
  replace hB1 := hB1.trans (hb2.mono hB1.size)
  go_wp2_with fail
  refine (HS.out _).mono ?_
  rintro e w3 ⟨rfl, hb3⟩
  replace x1 := x1.later hb3
  replace hB1 := hB1.trans (hb3.mono hB1.size)
  obtain ⟨c0, c1, c2, c3, cl⟩ := id x1.all4
  go_wp2_with fail
  refine (HT.out _).mono ?_
  rintro e w4 ⟨rfl, hb4⟩
  replace hB1 := hB1.trans (hb4.mono hB1.size)
  clear c0 c1 c2 c3 cl x1
  go_wp2_with fail
  refine (HI.out _ ((hB1.cell (p := ⟨0, 0, none⟩) Hg.out.2).trans Hg.out.1)).mono ?_
  rintro e w5 ⟨rfl, hb5⟩
  replace hB1 := hB1.trans (hb5.mono hB1.size)
  go_wp2
  go_ret
  exact ⟨rfl, hB1⟩
end Go.Proofs.YtcdgfmaclgegnaaDoor

namespace Go.Proofs.YtcdgfmaclgegnaaDoor.fnExactEditTreeDone
open Go.ChangeShapes Go.WideShapes Go.ChangeAt Go.RowKit
open Go.ChangeMaps (open_string shut_string)
set_option linter.unusedVariables false

theorem own : ownKnob Tryd.prog.godebug = none := by kernel_rfl
theorem laidOut : laidOutB Tryd.prog = true := by kernel_rfl
theorem door_met (os : Os) (args : Array Value) : laidMetH Tryd.prog Rows.fnExactEditTreeRow.laid ((World.doorLaid Tryd.prog 400 os).forCall (fun _ _ => 0) ⟨#[], args, []⟩).memory :=
  laidMetH_of_parts3 (fuel := 8) (laidMet_nil _ _) (by kernel_rfl) (by kernel_rfl)

set_option maxRecDepth 100000 in
theorem lifted (os : Os) (started : os.Started) (H : Type) (enc : TypeId × Value → H) :
    ReturnsInHanded {} Tryd.checked os 4 .any (fun w args => (Rows.fnExactEditTreeSpec.pre enc Tryd.prog Tryd.f4 [] false w args ∧ laidMetH Tryd.prog Rows.fnExactEditTreeRow.laid w) ∧ sizedMet enc Tryd.prog Tryd.f4 (OpenSpec.ofChange Rows.fnExactEditTreeSpec) false w args)
      (Rows.fnExactEditTreeSpec.post enc Tryd.prog Tryd.f4 false true false false) := by
  refine returnsInHanded_of_change_and (C := Tryd.checked) (X := fun w _ => laidMetH Tryd.prog Rows.fnExactEditTreeRow.laid w) (fun _ _ _ hh h => h.of_heap hh) own started (by kernel_rfl) Tryd.func4
    (ChangeSpec.witness_shaped (enc := enc) (C := Tryd.checked) (os := os) (X := fun w _ => laidMetH Tryd.prog Rows.fnExactEditTreeRow.laid w) false (World.doorLaid Tryd.prog 400 os) #[.string ByteArray.empty, .agg #[.int .i64 0, .int .i64 0, .int .i64 0, .string ByteArray.empty]] 8 rfl (World.shaped_of_RefB (by kernel_rfl) (by kernel_rfl)) (by kernel_rfl) (by kernel_rfl) (by kernel_rfl) (door_met os _)) ?_
  intro W base args ds gs before hval0 hW _ _ hL _
  have hval : ∀ (j : Nat) t v, Tryd.f4.params[j]? = some t → args[j]? = some v → Value.okWide Tryd.prog W .any base t v := hval0
  have hW' := hW
  obtain ⟨p, q, hA0, hV, rfl, hfz, hnd⟩ := hW
  have hA : DataW.TrodAll enc Tryd.prog W 0 (fun _ => true) true Tryd.f4.params.toList args.toList ds p := hA0
  rw [Tryd.params4] at hA hval
  obtain ⟨v0, vs0, d0, ds0, p0, q0, hargs, rfl, rfl, h0, r0⟩ := trodAll_cons hA
  obtain ⟨v1, vs1, d1, ds1, p1, q1, rfl, rfl, rfl, h1, r1⟩ := trodAll_cons r0
  obtain ⟨rfl, rfl, rfl⟩ := trodAll_nil r1
  obtain rfl : args = #[v0, v1] := by cases args; simp_all
  obtain ⟨rfl, rfl⟩ := trodVars_none hV
  obtain ⟨a0, rfl, rfl, rfl, w0⟩ := open_string Tryd.underlying9 (hval 0 9 v0 rfl rfl) h0
  obtain ⟨e1k, e1a, e1t, e1s, rfl, _, w1⟩ := open_edit (hval 1 23 v1 rfl rfl) h1
  have k1 := h1
  have lt1 : ∀ x ∈ p1, x.block < W.heap.size := by obtain ⟨m, hm⟩ := k1; exact DataW.trod_lt m _ _ _ hm
  have hg := handle_of_laid hL
  clear hA0 hval0
  refine (FnExactEditTree_walk a0 e1k e1a e1t e1s W w0 w1 hg).mono fun e W' ⟨he, bel⟩ => ?_
  subst he
  exact ⟨_, rfl, _, _, _, [], _, [], hW', trodAll_mk1 (shut_bool Tryd.underlying4 _), (trodAll_cons_mk (shut_string Tryd.underlying9 w0) (trodAll_cons_mk (Below.trod laidOut (by kernel_rfl) (of_decide_eq_true (by kernel_rfl)) k1 bel lt1) trodAll_mk0)), rfl, bel.frame _, fun h => by cases h⟩

theorem over : Rows.fnExactEditTreeRow.holds Tryd.pinned (OpenSpec.ofChange Rows.fnExactEditTreeSpec) :=
  OpenClaim.holds_of_wide 4 Tryd.f4 rfl rfl rfl rfl rfl rfl rfl ⟨rfl, rfl, rfl, rfl, rfl⟩ rfl rfl rfl rfl rfl (by kernel_rfl) Tryd.func4 (by kernel_rfl)
    (of_decide_eq_true (by kernel_rfl)) (by unfold Func.isWrapper; first | (rw [if_pos (by decide +kernel)]; kernel_rfl) | (rw [if_neg (by decide +kernel)]; exact ⟨rfl, rfl⟩))
    (fun os started H enc _ => lifted os started H enc)

theorem proved : Rows.FnExactEditTreeCardSaid :=
  Claim7.holds_tied_plain_at .later [] [.handle] true Rows.fnExactEditTreeCard.stood.harness true
    over (fun _ h => by cases h) (by kernel_rfl) (fun _ h => by cases h) fnExactEditTree_row_tie rfl ⟨rfl, rfl⟩ (by kernel_rfl) rfl
    (fun f fn hf hfn => by
      obtain rfl : f = 4 := Option.some.inj ((show Tryd.prog.funcNamed Rows.fnExactEditTreeRow.func = some 4 by kernel_rfl).symm.trans hf) |>.symm
      obtain rfl : fn = Tryd.f4 := (Option.some.inj (Tryd.func4.symm.trans hfn)).symm
      exact ⟨by kernel_rfl, fun j t ht => by
        rw [Tryd.params4] at ht
        have hm : t ∈ [9, 23] := by simpa using Array.mem_of_getElem? ht
        have hall : ([9, 23].all fun u => !Tryd.prog.wantsStandIn u) = true := by kernel_rfl
        exact (show Tryd.prog.wantsStandIn t = false by simpa using List.all_eq_true.1 hall t hm)⟩)
    (by kernel_rfl)
#print axioms proved
end Go.Proofs.YtcdgfmaclgegnaaDoor.fnExactEditTreeDone
