/- The law FnExactEditTrees returns true at every input, and the arguments read afterwards as they read before; the library's variable errors.errorType holds what the program lays: its tied card. -/
import Derived.Test.YtcdgfmaclgegnaaGreatDoorEdsI
import Derived.Test.YtcdgfmaclgegnaaGreatDoorLaidE
import Derived.Test.YtcdgfmaclgegnaaGreatDoorTie
import Derived.Test.YtcdgfmaclgegnaaGreatDoorCards
import Derived.LaidMore
import Derived.Stop.Joined
import Derived.SevenTiedAt
import Derived.WalkKit
import Derived.ProofKit
import Derived.OpenShut
import Derived.ShutString
import Derived.ChangeOld
import Derived.Below
namespace Go.Proofs.YtcdgfmaclgegnaaGreatDoor
open Go.RowKit
set_option linter.unusedVariables false

theorem edsV_form (s : ByteArray) (xs : List Ed) : ∃ (r : ByteArray) (d c : Int), edsV s xs = .tuple #[.string r, .int .i64 d, .int .i64 c] := by
  unfold edsV
  split
  · split
    · exact ⟨_, _, _, rfl⟩
    · exact ⟨_, _, _, rfl⟩
  · exact ⟨_, _, _, rfl⟩
set_option maxHeartbeats 3200000 in
set_option maxRecDepth 100000 in
theorem FnExactEditTrees_walk (b : ByteArray) (v : Value) (xs : List Ed) (w : World) (wb : b.size ≤ maxLen) (hr : TeR w v xs) (hg : w.cell? ⟨0, 0, none⟩ = some (.iface 152 (.agg #[.pointer (some ⟨7, 59, none⟩)]))) :
    Calls Tryz.prog 5 #[.string b, v] w fun e w' => e = .returned (.bool true) ∧ Below w.heap.size w w' := by
  unfold maxLen at wb
  have Hg := Lib.hid (And.intro hg (World.block_lt_of_cell? _ _ hg))
  have HR := Lib.hid hr
  have hz := fun W (hb : Below w.heap.size w W) => sz_tes 1048576 W (Nat.le_refl _) (tes_r.later hr hb)
  clear hg hr
  by_cases hb : b.size ≤ 1048576
  case neg =>
    have hbn : 1048576 < b.size := by omega
    have hbi : decide ((1048576 : Int) < (b.size : Int)) = true := decide_eq_true (by omega)
    clear hb hz
    go_enter Tryz.func5, Tryz.ntmps5
    go_wp2
    go_ret
    exact ⟨rfl, Below.refl _ _⟩
  have hbn : ¬ (1048576 < b.size) := by omega
  have hbi : decide ((1048576 : Int) < (b.size : Int)) = false := decide_eq_false (by omega)
  by_cases hs : cntTe xs ≤ 1048576
  case neg =>
    simp only [dec_no hs] at hz
    have HZ := Lib.hid hz
    clear hz hs
    go_enter Tryz.func5, Tryz.ntmps5
    go_wp2_with fail
    refine (HZ.out _ (Below.refl _ _)).mono ?_
    rintro e w1 ⟨rfl, hb⟩
    go_wp2
    go_ret
    exact ⟨rfl, hb⟩
  have hbd := bd_tes hs
  have hmem : ∀ x ∈ xs, x.2.2.2.size ≤ 1048576 := fun x hx => by
    have h1 := szL_mem (sz := szTe1) xs x hx
    have h2 : szTe1 x = x.2.2.2.size := rfl
    unfold cntTe at hs
    omega
  have hlen : xs.length ≤ 1048576 := hbd
  simp only [dec_yes hs] at hz
  obtain ⟨l, hl⟩ : ∃ l, l = 1048576 - cntTe xs := ⟨_, rfl⟩
  simp only [← hl] at hz
  have HZ := Lib.hid hz
  have HT := Lib.hid fun W (hb : Below w.heap.size w W) => to_tes W hbd (tes_r.later HR.out hb)
  obtain ⟨r, d, c, hV⟩ := edsV_form b xs
  have HS := Lib.hid fun (base : Nat) (v : Value) (bs : List Nat) W (h : TeE base W v xs bs) => spec_EditTrees b W hb hlen hmem h
  have HI := Lib.hid fun (base : Nat) (v : Value) (bs : List Nat) W hg (h : TeE base W v xs bs) => impl_EditTrees b W hb hlen hmem hg h
  rw [hV] at HS HI
  have HQ := Lib.hid fun (b1 b2 : Nat) (v1 v2 : Value) (s1 s2 : List Nat) W (h1 : TeE b1 W v1 xs s1) (h2 : TeE b2 W v2 xs s2) => eq_tes W hlen h1 h2
  clear hz hs hl hb hbd hmem hlen hV
  go_enter Tryz.func5, Tryz.ntmps5
  go_wp2_with fail
  refine (HZ.out _ (Below.refl _ _)).mono ?_
  rintro e w1 ⟨rfl, hb1⟩
  have B1 := Lib.hid hb1
  clear hb1
  go_wp2_with fail
  refine (HT.out _ B1.out).mono ?_
  rintro e w2 ⟨v2, s2, rfl, E2, hb2⟩
  have B2 := Lib.hid (B1.out.trans (hb2.mono B1.out.size))
  have H2 := Lib.hid E2
  clear hb2 E2
  go_wp2_with fail
  refine (HS.out _ _ _ _ H2.out).mono ?_
  rintro e w3 ⟨rfl, hb3⟩
  have B3 := Lib.hid (B2.out.trans (hb3.mono B2.out.size))
  clear hb3 H2
  go_wp2_with fail
  refine (HT.out _ B3.out).mono ?_
  rintro e w4 ⟨v4, s4, rfl, E4, hb4⟩
  have B4 := Lib.hid (B3.out.trans (hb4.mono B3.out.size))
  have H4 := Lib.hid E4
  clear hb4 E4
  go_wp2_with fail
  refine (HI.out _ _ _ _ ((B4.out.cell (p := ⟨0, 0, none⟩) Hg.out.2).trans Hg.out.1) H4.out).mono ?_
  rintro e w5 ⟨rfl, hb5⟩
  have B5 := Lib.hid (B4.out.trans (hb5.mono B4.out.size))
  have H5 := Lib.hid ((te_ok _).later H4.out hb5)
  clear hb5 H4
  go_wp2_with fail
  refine (HT.out _ B5.out).mono ?_
  rintro e w6 ⟨v6, s6, rfl, E6, hb6⟩
  have B6 := Lib.hid (B5.out.trans (hb6.mono B5.out.size))
  have H6 := Lib.hid (And.intro ((te_ok _).later H5.out hb6) E6)
  clear hb6 E6
  go_wp2_with fail
  refine (HQ.out _ _ _ _ _ _ _ H6.out.1 H6.out.2).mono ?_
  rintro e w7 ⟨rfl, hb7⟩
  have B7 := Lib.hid (B6.out.trans (hb7.mono B6.out.size))
  clear hb7
  go_wp2
  go_ret
  exact ⟨rfl, B7.out⟩
end Go.Proofs.YtcdgfmaclgegnaaGreatDoor

namespace Go.Proofs.YtcdgfmaclgegnaaGreatDoor.fnExactEditTreesDone
open Go.ChangeShapes Go.WideShapes Go.ChangeAt Go.RowKit
open Go.ChangeMaps (open_string shut_string)
set_option linter.unusedVariables false

theorem own : ownKnob Tryz.prog.godebug = none := by kernel_rfl
theorem laidOut : laidOutB Tryz.prog = true := by kernel_rfl
theorem door_met (os : Os) (args : Array Value) : laidMetH Tryz.prog Rows.fnExactEditTreesRow.laid ((World.doorLaid Tryz.prog 400 os).forCall (fun _ _ => 0) ⟨#[], args, []⟩).memory :=
  laidMetH_of_parts3 (fuel := 8) (laidMet_nil _ _) (by kernel_rfl) (by kernel_rfl)

set_option maxRecDepth 100000 in
theorem lifted (os : Os) (started : os.Started) (H : Type) (enc : TypeId × Value → H) :
    ReturnsInHanded {} Tryz.checked os 5 .any (fun w args => (Rows.fnExactEditTreesSpec.pre enc Tryz.prog Tryz.f5 [] false w args ∧ laidMetH Tryz.prog Rows.fnExactEditTreesRow.laid w) ∧ sizedMet enc Tryz.prog Tryz.f5 (OpenSpec.ofChange Rows.fnExactEditTreesSpec) false w args)
      (Rows.fnExactEditTreesSpec.post enc Tryz.prog Tryz.f5 false true false false) := by
  refine returnsInHanded_of_change_and (C := Tryz.checked) (X := fun w _ => laidMetH Tryz.prog Rows.fnExactEditTreesRow.laid w) (fun _ _ _ hh h => h.of_heap hh) own started (by kernel_rfl) Tryz.func5
    (ChangeSpec.witness_shaped (enc := enc) (C := Tryz.checked) (os := os) (X := fun w _ => laidMetH Tryz.prog Rows.fnExactEditTreesRow.laid w) false (World.doorLaid Tryz.prog 400 os) #[.string ByteArray.empty, .slice none 0 0] 8 rfl (World.shaped_of_RefB (by kernel_rfl) (by kernel_rfl)) (by kernel_rfl) (by kernel_rfl) (by kernel_rfl) (door_met os _)) ?_
  intro W base args ds gs before hval0 hW _ _ hL _
  have hval : ∀ (j : Nat) t v, Tryz.f5.params[j]? = some t → args[j]? = some v → Value.okWide Tryz.prog W .any base t v := hval0
  have hW' := hW
  obtain ⟨p, q, hA0, hV, rfl, hfz, hnd⟩ := hW
  have hA : DataW.TrodAll enc Tryz.prog W 0 (fun _ => true) true Tryz.f5.params.toList args.toList ds p := hA0
  rw [Tryz.params5] at hA hval
  obtain ⟨v0, vs0, d0, ds0, p0, q0, hargs, rfl, rfl, h0, r0⟩ := trodAll_cons hA
  obtain ⟨v1, vs1, d1, ds1, p1, q1, rfl, rfl, rfl, h1, r1⟩ := trodAll_cons r0
  obtain ⟨rfl, rfl, rfl⟩ := trodAll_nil r1
  obtain rfl : args = #[v0, v1] := by cases args; simp_all
  obtain ⟨rfl, rfl⟩ := trodVars_none hV
  obtain ⟨a0, rfl, rfl, rfl, w0⟩ := open_string Tryz.underlying9 (hval 0 9 v0 rfl rfl) h0
  obtain ⟨x1, R1, _⟩ := open_edits (hval 1 33 v1 rfl rfl) h1
  have k1 := h1
  have lt1 : ∀ x ∈ p1, x.block < W.heap.size := by obtain ⟨m, hm⟩ := k1; exact DataW.trod_lt m _ _ _ hm
  have hg := handle_of_laid hL
  clear hA0 hval0
  refine (FnExactEditTrees_walk a0 v1 x1 W w0 R1 hg).mono fun e W' ⟨he, bel⟩ => ?_
  subst he
  exact ⟨_, rfl, _, _, _, [], _, [], hW', trodAll_mk1 (shut_bool Tryz.underlying4 _), (trodAll_cons_mk (shut_string Tryz.underlying9 w0) (trodAll_cons_mk (Below.trod laidOut (by kernel_rfl) (of_decide_eq_true (by kernel_rfl)) k1 bel lt1) trodAll_mk0)), rfl, bel.frame _, fun h => by cases h⟩

theorem over : Rows.fnExactEditTreesRow.holds Tryz.pinned (OpenSpec.ofChange Rows.fnExactEditTreesSpec) :=
  OpenClaim.holds_of_wide 5 Tryz.f5 rfl rfl rfl rfl rfl rfl rfl ⟨rfl, rfl, rfl, rfl, rfl⟩ rfl rfl rfl rfl rfl (by kernel_rfl) Tryz.func5 (by kernel_rfl)
    (of_decide_eq_true (by kernel_rfl)) (by unfold Func.isWrapper; first | (rw [if_pos (by decide +kernel)]; kernel_rfl) | (rw [if_neg (by decide +kernel)]; exact ⟨rfl, rfl⟩))
    (fun os started H enc _ => lifted os started H enc)

theorem proved : Rows.FnExactEditTreesCardSaid :=
  Claim7.holds_tied_plain_at .later [] [.handle] true Rows.fnExactEditTreesCard.stood.harness true
    over (fun _ h => by cases h) (by kernel_rfl) (fun _ h => by cases h) fnExactEditTrees_row_tie rfl ⟨rfl, rfl⟩ (by kernel_rfl) rfl
    (fun f fn hf hfn => by
      obtain rfl : f = 5 := Option.some.inj ((show Tryz.prog.funcNamed Rows.fnExactEditTreesRow.func = some 5 by kernel_rfl).symm.trans hf) |>.symm
      obtain rfl : fn = Tryz.f5 := (Option.some.inj (Tryz.func5.symm.trans hfn)).symm
      exact ⟨by kernel_rfl, fun j t ht => by
        rw [Tryz.params5] at ht
        have hm : t ∈ [9, 33] := by simpa using Array.mem_of_getElem? ht
        have hall : ([9, 33].all fun u => !Tryz.prog.wantsStandIn u) = true := by kernel_rfl
        exact (show Tryz.prog.wantsStandIn t = false by simpa using List.all_eq_true.1 hall t hm)⟩)
    (by kernel_rfl)
#print axioms proved
end Go.Proofs.YtcdgfmaclgegnaaGreatDoor.fnExactEditTreesDone
