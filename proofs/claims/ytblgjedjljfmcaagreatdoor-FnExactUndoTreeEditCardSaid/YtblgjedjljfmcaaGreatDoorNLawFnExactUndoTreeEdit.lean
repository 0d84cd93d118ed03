import Derived.Test.YtblgjedjljfmcaaGreatDoorMFnExactUndoTreeEdit29
import Derived.Test.YtblgjedjljfmcaaGreatDoorMFnExactUndoTreeEdit30
import Derived.Test.YtblgjedjljfmcaaGreatDoorMFnExactUndoTreeEdit31
import Derived.Test.YtblgjedjljfmcaaGreatDoorTie
import Derived.Test.YtblgjedjljfmcaaGreatDoorCards
import Derived.LaidMore
import Derived.Stop.Joined
import Derived.SevenTiedAt
import Derived.WalkKit
import Derived.ProofKit
import Derived.OpenShut
import Derived.ShutString
import Derived.ChangeOld
import Derived.Below
/- The law FnExactUndoTreeEdit returns true at every input, and the arguments read afterwards as they read before; the library's variable errors.errorType holds what the program lays: its tied card. -/
namespace Go.Proofs.YtblgjedjljfmcaaGreatDoor
open Go.RowKit
set_option linter.unusedVariables false

set_option maxHeartbeats 3200000 in
set_option maxRecDepth 100000 in
theorem FnExactUndoTreeEdit_walk (b : ByteArray) (k a t : Int) (s : ByteArray) (w : World) (wb : b.size ≤ maxLen) (ws : s.size ≤ maxLen) (hg : w.cell? ⟨0, 0, none⟩ = some (.iface 124 (.agg #[.pointer (some ⟨7, 43, none⟩)]))) :
    Calls Tryz.prog 3 #[.string b, .agg #[.int .i64 k, .int .i64 a, .int .i64 t, .string s]] w fun e w' => e = .returned (.bool true) ∧ Below w.heap.size w w' := by
  unfold maxLen at wb ws
  have hx := Bx.new w 23 #[.int .i64 k, .int .i64 a, .int .i64 t, .string s]
  have hB := (Below.refl w.heap.size w).alloc (Nat.le_refl _) (.cells #[.int .i64 k, .int .i64 a, .int .i64 t, .string s] 23)
  obtain ⟨c0, c1, c2, c3, cl⟩ := id hx.all4
  have HX := Lib.hid (And.intro hx hB)
  have Hg := Lib.hid (And.intro hg (World.block_lt_of_cell? _ _ hg))
  clear hx hB hg
  by_cases hb : b.size ≤ 1048576
  case neg =>
    have hbn : 1048576 < b.size := by omega
    have hbi : decide ((1048576 : Int) < (b.size : Int)) = true := decide_eq_true (by omega)
    clear hb
    go_enter Tryz.func3, Tryz.ntmps3
    go_wp2
    go_ret
    exact ⟨rfl, HX.out.2⟩
  have hbn : ¬ (1048576 < b.size) := by omega
  have hbi : decide ((1048576 : Int) < (b.size : Int)) = false := decide_eq_false (by omega)
  have hz := fun W => sz_edit k a t s 1048576 W (Nat.le_refl _) ws
  by_cases hs : s.size ≤ 1048576
  case neg =>
    simp only [dec_no hs] at hz
    have HZ := Lib.hid hz
    clear hz hs
    go_enter Tryz.func3, Tryz.ntmps3
    go_wp2_with fail
    refine (HZ.out _).mono ?_
    rintro e w1 ⟨rfl, hb⟩
    go_wp2
    go_ret
    exact ⟨rfl, HX.out.2.trans (hb.mono HX.out.2.size)⟩
  simp only [dec_yes hs] at hz
  obtain ⟨l, hl⟩ : ∃ l, l = 1048576 - s.size := ⟨_, rfl⟩
  simp only [← hl] at hz
  have HZ := Lib.hid hz
  have HT := Lib.hid fun W => to_edit k a t s W
  obtain ⟨k', a', t', u', c, hu', hS, hI⟩ := both_UndoTreeEdit k a t b s hb hs
  unfold undV at hS hI
  unfold HgAt at hI
  have HS := Lib.hid hS
  have HI := Lib.hid hI
  have HQ := Lib.hid fun W => eq_te k' a' t' u' W
  clear hz hs hl hS hI hb
  go_enter Tryz.func3, Tryz.ntmps3
  go_wp2_with fail
  refine (HZ.out _).mono ?_
  rintro e w1 ⟨rfl, hb1⟩
  clear c0 c1 c2 c3 cl
  have x1 := HX.out.1.later hb1
  have hB1 := HX.out.2.trans (hb1.mono HX.out.2.size)
  obtain ⟨c0, c1, c2, c3, cl⟩ := id x1.all4
  go_wp2_with fail
  refine (HT.out _).mono ?_
  rintro e w2 ⟨rfl, hb2⟩
  clear c0 c1 c2 c3 cl
  replace x1 := x1.later hb2
  replace hB1 := hB1.trans (hb2.mono hB1.size)
  go_wp2_with fail
  refine (HS.out _).mono ?_
  rintro e w3 ⟨rfl, hb3⟩
  replace x1 := x1.later hb3
  replace hB1 := hB1.trans (hb3.mono hB1.size)
  obtain ⟨c0, c1, c2, c3, cl⟩ := id x1.all4
  have y1 := Bx.new w3 25 (EdA k' a' t' u')
  have hA3 := (Below.refl w3.heap.size w3).alloc (Nat.le_refl _) (.cells (EdA k' a' t' u') 25)
  obtain ⟨W4, hW4⟩ : ∃ x, x = w3.alloc (.cells (EdA k' a' t' u') 25) := ⟨_, rfl⟩
  rw [← hW4] at y1 hA3
  have HW4 := Lib.hid hW4
  replace hB1 := hB1.trans (hA3.mono hB1.size)
  have HB1 := Lib.hid hB1
  have HY := Lib.hid y1
  clear hW4 hA3 x1 y1 hB1
  go_wp2_with fail
  rw [← HW4.out]
  refine (HT.out _).mono ?_
  rintro e w4 ⟨rfl, hb4⟩
  have hB4 := HB1.out.trans (hb4.mono HB1.out.size)
  have HB4 := Lib.hid hB4
  have HY4 := Lib.hid (HY.out.later hb4)
  clear c0 c1 c2 c3 cl hb4 hB4
  go_wp2_with fail
  refine (HI.out _ ((HB4.out.cell (p := ⟨0, 0, none⟩) Hg.out.2).trans Hg.out.1)).mono ?_
  rintro e w5 ⟨rfl, hb5⟩
  have hB5 := HB4.out.trans (hb5.mono HB4.out.size)
  have y5 := HY4.out.later hb5
  obtain ⟨c0, c1, c2, c3, cl⟩ := id y5.all4
  have z1 := Bx.new w5 25 (EdA k' a' t' u')
  have y6 := y5.alloc (.cells (EdA k' a' t' u') 25)
  have hA5 := (Below.refl w5.heap.size w5).alloc (Nat.le_refl _) (.cells (EdA k' a' t' u') 25)
  obtain ⟨W6, hW6⟩ : ∃ x, x = w5.alloc (.cells (EdA k' a' t' u') 25) := ⟨_, rfl⟩
  rw [← hW6] at z1 hA5 y6
  have HB6 := Lib.hid (hB5.trans (hA5.mono hB5.size))
  have HW6 := Lib.hid hW6
  clear c0 c1 c2 c3 cl
  obtain ⟨c0, c1, c2, c3, cl⟩ := id y6.all4
  obtain ⟨d0, d1, d2, d3, dl⟩ := id z1.all4
  clear hW6 hA5 z1 y6 y5 hB5 hb5
  go_upto_region 9 with fail
  rw [← HW6.out]
  go_wp2_with fail
  refine (HQ.out _).mono ?_
  rintro e w6 ⟨rfl, hb6⟩
  go_wp2
  go_ret
  exact ⟨rfl, HB6.out.trans (hb6.mono HB6.out.size)⟩
end Go.Proofs.YtblgjedjljfmcaaGreatDoor

namespace Go.Proofs.YtblgjedjljfmcaaGreatDoor.fnExactUndoTreeEditDone
open Go.ChangeShapes Go.WideShapes Go.ChangeAt Go.RowKit
open Go.ChangeMaps (open_string shut_string)
set_option linter.unusedVariables false

theorem own : ownKnob Tryz.prog.godebug = none := by kernel_rfl
theorem laidOut : laidOutB Tryz.prog = true := by kernel_rfl
theorem door_met (os : Os) (args : Array Value) : laidMetH Tryz.prog Rows.fnExactUndoTreeEditRow.laid ((World.doorLaid Tryz.prog 400 os).forCall (fun _ _ => 0) ⟨#[], args, []⟩).memory :=
  laidMetH_of_parts3 (fuel := 8) (laidMet_nil _ _) (by kernel_rfl) (by kernel_rfl)

set_option maxRecDepth 100000 in
theorem lifted (os : Os) (started : os.Started) (H : Type) (enc : TypeId × Value → H) :
    ReturnsInHanded {} Tryz.checked os 3 .any (fun w args => (Rows.fnExactUndoTreeEditSpec.pre enc Tryz.prog Tryz.f3 [] false w args ∧ laidMetH Tryz.prog Rows.fnExactUndoTreeEditRow.laid w) ∧ sizedMet enc Tryz.prog Tryz.f3 (OpenSpec.ofChange Rows.fnExactUndoTreeEditSpec) false w args)
      (Rows.fnExactUndoTreeEditSpec.post enc Tryz.prog Tryz.f3 false true false false) := by
  refine returnsInHanded_of_change_and (C := Tryz.checked) (X := fun w _ => laidMetH Tryz.prog Rows.fnExactUndoTreeEditRow.laid w) (fun _ _ _ hh h => h.of_heap hh) own started (by kernel_rfl) Tryz.func3
    (ChangeSpec.witness_shaped (enc := enc) (C := Tryz.checked) (os := os) (X := fun w _ => laidMetH Tryz.prog Rows.fnExactUndoTreeEditRow.laid w) false (World.doorLaid Tryz.prog 400 os) #[.string ByteArray.empty, .agg #[.int .i64 0, .int .i64 0, .int .i64 0, .string ByteArray.empty]] 8 rfl (World.shaped_of_RefB (by kernel_rfl) (by kernel_rfl)) (by kernel_rfl) (by kernel_rfl) (by kernel_rfl) (door_met os _)) ?_
  intro W base args ds gs before hval0 hW _ _ hL _
  have hval : ∀ (j : Nat) t v, Tryz.f3.params[j]? = some t → args[j]? = some v → Value.okWide Tryz.prog W .any base t v := hval0
  have hW' := hW
  obtain ⟨p, q, hA0, hV, rfl, hfz, hnd⟩ := hW
  have hA : DataW.TrodAll enc Tryz.prog W 0 (fun _ => true) true Tryz.f3.params.toList args.toList ds p := hA0
  rw [Tryz.params3] at hA hval
  obtain ⟨v0, vs0, d0, ds0, p0, q0, hargs, rfl, rfl, h0, r0⟩ := trodAll_cons hA
  obtain ⟨v1, vs1, d1, ds1, p1, q1, rfl, rfl, rfl, h1, r1⟩ := trodAll_cons r0
  obtain ⟨rfl, rfl, rfl⟩ := trodAll_nil r1
  obtain rfl : args = #[v0, v1] := by cases args; simp_all
  obtain ⟨rfl, rfl⟩ := trodVars_none hV
  obtain ⟨a0, rfl, rfl, rfl, w0⟩ := open_string Tryz.underlying9 (hval 0 9 v0 rfl rfl) h0
  obtain ⟨e1k, e1a, e1t, e1s, rfl, _, w1⟩ := open_edit (hval 1 23 v1 rfl rfl) h1
  have k1 := h1
  have lt1 : ∀ x ∈ p1, x.block < W.heap.size := by obtain ⟨m, hm⟩ := k1; exact DataW.trod_lt m _ _ _ hm
  have hg := handle_of_laid hL
  clear hA0 hval0
  refine (FnExactUndoTreeEdit_walk a0 e1k e1a e1t e1s W w0 w1 hg).mono fun e W' ⟨he, bel⟩ => ?_
  subst he
  exact ⟨_, rfl, _, _, _, [], _, [], hW', trodAll_mk1 (shut_bool Tryz.underlying4 _), (trodAll_cons_mk (shut_string Tryz.underlying9 w0) (trodAll_cons_mk (Below.trod laidOut (by kernel_rfl) (of_decide_eq_true (by kernel_rfl)) k1 bel lt1) trodAll_mk0)), rfl, bel.frame _, fun h => by cases h⟩

theorem over : Rows.fnExactUndoTreeEditRow.holds Tryz.pinned (OpenSpec.ofChange Rows.fnExactUndoTreeEditSpec) :=
  OpenClaim.holds_of_wide 3 Tryz.f3 rfl rfl rfl rfl rfl rfl rfl ⟨rfl, rfl, rfl, rfl, rfl⟩ rfl rfl rfl rfl rfl (by kernel_rfl) Tryz.func3 (by kernel_rfl)
    (of_decide_eq_true (by kernel_rfl)) (by unfold Func.isWrapper; first | (rw [if_pos (by decide +kernel)]; kernel_rfl) | (rw [if_neg (by decide +kernel)]; exact ⟨rfl, rfl⟩))
    (fun os started H enc _ => lifted os started H enc)

theorem proved : Rows.FnExactUndoTreeEditCardSaid :=
  Claim7.holds_tied_plain_at .later [] [.handle] true Rows.fnExactUndoTreeEditCard.stood.harness true
    over (fun _ h => by cases h) (by kernel_rfl) (fun _ h => by cases h) fnExactUndoTreeEdit_row_tie rfl ⟨rfl, rfl⟩ (by kernel_rfl) rfl
    (fun f fn hf hfn => by
      obtain rfl : f = 3 := Option.some.inj ((show Tryz.prog.funcNamed Rows.fnExactUndoTreeEditRow.func = some 3 by kernel_rfl).symm.trans hf) |>.symm
      obtain rfl : fn = Tryz.f3 := (Option.some.inj (Tryz.func3.symm.trans hfn)).symm
      exact ⟨by kernel_rfl, fun j t ht => by
        rw [Tryz.params3] at ht
        have hm : t ∈ [9, 23] := by simpa using Array.mem_of_getElem? ht
        have hall : ([9, 23].all fun u => !Tryz.prog.wantsStandIn u) = true := by kernel_rfl
        exact (show Tryz.prog.wantsStandIn t = false by simpa using List.all_eq_true.1 hall t hm)⟩)
    (by kernel_rfl)
#print axioms proved
end Go.Proofs.YtblgjedjljfmcaaGreatDoor.fnExactUndoTreeEditDone
