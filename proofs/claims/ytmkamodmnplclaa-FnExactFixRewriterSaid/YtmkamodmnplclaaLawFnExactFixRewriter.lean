/- The law FnExactFixRewriter returns true: no condition. -/
import Derived.Test.YtmkamodmnplclaaKnFix
import Derived.Test.YtmkamodmnplclaaBox5
import Derived.WalkKit
import Derived.ProofKit
import Derived.OpenShut
import Derived.ChangeOld
import Derived.Below
namespace Go.Proofs.Ytmkamodmnplclaa
open Go.RowKit
set_option linter.unusedVariables false
set_option maxHeartbeats 6400000 in
set_option maxRecDepth 100000 in
theorem FnExactFixRewriter_walk (w : World) :
    Calls Try.prog 5 #[] w fun e w' => e = .returned (.bool true) ∧ Below w.heap.size w w' := by
  obtain ⟨c, hc⟩ : ∃ c, c = fixRw := ⟨_, rfl⟩
  have hbd : BdRw c := by rw [hc]; exact fix_bd
  have HS := Lib.hid fun w => spec_FixRewriter w
  have HI := Lib.hid fun w => impl_FixRewriter w
  rw [← hc] at HS HI
  clear hc
  have hsz := hbd.sum
  obtain ⟨z, hz⟩ : ∃ z, z = szRw c := ⟨_, rfl⟩
  rw [← hz] at hsz
  have Hz := Lib.hid hz
  have Hbd := Lib.hid hbd
  clear hz hbd
  go_enter Try.func5, Try.ntmps5
  go_wp2_with fail
  refine (HS.out _).mono ?_
  rintro e w1 ⟨v1, bs1, rfl, E1, hb1⟩
  obtain ⟨a1, na1, ca1, c1, nc1, cc1, r1, nr1, cr1, rfl⟩ := E1.form
  have box1 := Box5.new w1 (.int .i64 c.stack) (.int .i64 c.start) (.slice a1 na1 ca1) (.slice c1 nc1 cc1) (.slice r1 nr1 cr1) 36
  have hB1 := hb1.alloc hb1.size (.cells #[.int .i64 c.stack, .int .i64 c.start, .slice a1 na1 ca1, .slice c1 nc1 cc1, .slice r1 nr1 cr1] 36)
  have E1' := (rewriter_ok _).later E1 ((Below.refl _ w1).alloc (Nat.le_refl _) (.cells #[.int .i64 c.stack, .int .i64 c.start, .slice a1 na1 ca1, .slice c1 nc1 cc1, .slice r1 nr1 cr1] 36))
  have lt1 := (rewriter_ok _).lt E1
  go_wp2_with fail
  refine (HI.out _).mono ?_
  rintro e w2 ⟨v2, bs2, rfl, E2, hb2⟩
  have E1b := (rewriter_ok _).later E1' hb2
  have box1b := box1.later hb2
  have hB2 := hB1.trans (hb2.mono hB1.size)
  obtain ⟨a2, na2, ca2, c2, nc2, cc2, r2, nr2, cr2, rfl⟩ := E2.form
  have lt2 := (rewriter_ok _).lt E2
  rw [World.size_alloc] at lt2
  have box2 := Box5.new w2 (.int .i64 c.stack) (.int .i64 c.start) (.slice a2 na2 ca2) (.slice c2 nc2 cc2) (.slice r2 nr2 cr2) 36
  have hn2 := (Below.refl _ w2).alloc (Nat.le_refl _) (.cells #[.int .i64 c.stack, .int .i64 c.start, .slice a2 na2 ca2, .slice c2 nc2 cc2, .slice r2 nr2 cr2] 36)
  have E1c := (rewriter_ok _).later E1b hn2
  have E2c := (rewriter_ok _).later E2 hn2
  have box1c := box1b.later hn2
  have hB2' := hB2.alloc hB2.size (.cells #[.int .i64 c.stack, .int .i64 c.start, .slice a2 na2 ca2, .slice c2 nc2 cc2, .slice r2 nr2 cr2] 36)
  have q2 := box1b.lt
  have far : w1.heap.size ∉ bs2 := fun h => by have := lt2 _ h; omega
  have far2 : w2.heap.size ∉ bs2 := fun h => by have := lt2 _ h; omega
  have apart : ∀ b ∈ bs1, b ∉ bs2 := fun b h h' => by have := lt1 b h; have := lt2 b h'; omega
  have old : ∀ b ∈ bs2, w.heap.size ≤ b := fun b h => by have := lt2 b h; have := hb1.size; omega
  have Far := Lib.hid (And.intro far (And.intro far2 (And.intro apart old)))
  clear far far2 apart old lt1 lt2
  obtain ⟨p0, p1, p2, p3, p4, pl⟩ := id box1c
  obtain ⟨s0, s1, s2, s3, s4, sl⟩ := id box2
  go_wp2_with fail
  refine (eq_rewriter _ Hbd.out E2c E1c).mono ?_
  rintro e w3 ⟨rfl, hb3⟩
  have E1d := (rewriter_ok _).later E1c hb3
  have E2d := (rewriter_ok _).later E2c hb3
  have box1d := box1c.later hb3
  have box2d := box2.later hb3
  have hB3 := hB2'.trans (hb3.mono hB2'.size)
  clear p0 p1 p2 p3 p4 pl s0 s1 s2 s3 s4 sl
  obtain ⟨p0, p1, p2, p3, p4, pl⟩ := id box1d
  obtain ⟨s0, s1, s2, s3, s4, sl⟩ := id box2d
  go_wp2_with fail
  refine (mark_rewriter 1 _ Hbd.out (by omega) E2d).mono ?_
  rintro e w4 ⟨rfl, E2e, ht4⟩
  have E1e := (rewriter_ok _).off E1d ht4 Far.out.2.2.1
  have box1e := box1d.off ht4 Far.out.1
  have box2e := box2d.off ht4 Far.out.2.1
  have hB4 := ht4.below hB3 hB3.size Far.out.2.2.2
  rw [← Hz.out]
  clear p0 p1 p2 p3 p4 pl s0 s1 s2 s3 s4 sl
  obtain ⟨p0, p1, p2, p3, p4, pl⟩ := id box1e
  obtain ⟨s0, s1, s2, s3, s4, sl⟩ := id box2e
  have hh5 := held_rewriter 1 w4 Hbd.out (by omega) E2e
  rw [← Hz.out] at hh5
  have HH5 := Lib.hid hh5
  clear hh5
  go_wp2_with fail
  refine HH5.out.mono ?_
  rintro e w5 ⟨rfl, hb5⟩
  have E1f := (rewriter_ok _).later E1e hb5
  have E2f := (rewriter_ok _).later E2e hb5
  have box1f := box1e.later hb5
  have box2f := box2e.later hb5
  have hB5 := hB4.trans (hb5.mono hB4.size)
  clear p0 p1 p2 p3 p4 pl s0 s1 s2 s3 s4 sl
  obtain ⟨p0, p1, p2, p3, p4, pl⟩ := id box1f
  obtain ⟨s0, s1, s2, s3, s4, sl⟩ := id box2f
  go_wp2_with fail
  refine (HI.out _).mono ?_
  rintro e w6 ⟨v6, bs6, rfl, E6, hb6⟩
  obtain ⟨a6, na6, ca6, c6, nc6, cc6, r6, nr6, cr6, rfl⟩ := E6.form
  have hn6 := (Below.refl _ w6).alloc (Nat.le_refl _) (.cells #[.int .i64 c.stack, .int .i64 c.start, .slice a6 na6 ca6, .slice c6 nc6 cc6, .slice r6 nr6 cr6] 36)
  have box6 := Box5.new w6 (.int .i64 c.stack) (.int .i64 c.start) (.slice a6 na6 ca6) (.slice c6 nc6 cc6) (.slice r6 nr6 cr6) 36
  have E1g := (rewriter_ok _).later ((rewriter_ok _).later E1f hb6) hn6
  have E2g := (rewriter_ok _).later ((rewriter_ok _).later E2f hb6) hn6
  have E6g := (rewriter_ok _).later E6 hn6
  have box1g := (box1f.later hb6).later hn6
  have box2g := (box2f.later hb6).later hn6
  have hB6 := hB5.trans (hb6.mono hB5.size)
  have hB6' := hB6.alloc hB6.size (.cells #[.int .i64 c.stack, .int .i64 c.start, .slice a6 na6 ca6, .slice c6 nc6 cc6, .slice r6 nr6 cr6] 36)
  clear p0 p1 p2 p3 p4 pl s0 s1 s2 s3 s4 sl
  obtain ⟨p0, p1, p2, p3, p4, pl⟩ := id box1g
  obtain ⟨s0, s1, s2, s3, s4, sl⟩ := id box2g
  obtain ⟨u0, u1, u2, u3, u4, ul⟩ := id box6
  go_wp2_with fail
  refine (eq_rewriter _ Hbd.out E6g E1g).mono ?_
  rintro e w7 ⟨rfl, hb7⟩
  have E2h := (rewriter_ok _).later E2g hb7
  have box2h := box2g.later hb7
  have hB7 := hB6'.trans (hb7.mono hB6'.size)
  clear p0 p1 p2 p3 p4 pl s0 s1 s2 s3 s4 sl u0 u1 u2 u3 u4 ul
  obtain ⟨s0, s1, s2, s3, s4, sl⟩ := id box2h
  have hh8 := held_rewriter 1 w7 Hbd.out (by omega) E2h
  rw [← Hz.out] at hh8
  have HH8 := Lib.hid hh8
  clear hh8
  go_wp2_with fail
  refine HH8.out.mono ?_
  rintro e w8 ⟨rfl, hb8⟩
  have hB8 := hB7.trans (hb8.mono hB7.size)
  go_wp2
  go_ret
  exact ⟨rfl, hB8⟩
end Go.Proofs.Ytmkamodmnplclaa

namespace Go.Proofs.Ytmkamodmnplclaa.fnExactFixRewriterDone
open Go.ChangeShapes Go.WideShapes Go.ChangeAt Go.RowKit
set_option linter.unusedVariables false

theorem own : ownKnob Try.prog.godebug = none := by kernel_rfl
theorem laidOut : laidOutB Try.prog = true := by kernel_rfl

set_option maxRecDepth 100000 in
theorem lifted (os : Os) (started : os.Started) (H : Type) (enc : TypeId × Value → H) :
    ReturnsInHanded {} Try.checked os 5 .any (Rows.fnExactFixRewriterSpec.pre6 enc Try.prog Try.f5 Rows.fnExactFixRewriterRow.domain false) (Rows.fnExactFixRewriterSpec.post enc Try.prog Try.f5 false true false false) := by
  refine returnsInHanded_of_change (C := Try.checked) own started (by kernel_rfl) Try.func5
    (ChangeSpec.witness6 (enc := enc) (C := Try.checked) false ⟨#[], #[], []⟩ 8 (by kernel_rfl) (by kernel_rfl) (by kernel_rfl) (by kernel_rfl)) ?_
  intro W base args ds gs before hval0 hW hcnd _
  have hW' := hW
  obtain ⟨p, q, hA0, hV, rfl, hfz, hnd⟩ := hW
  have hA : DataW.TrodAll enc Try.prog W 0 (fun _ => true) true Try.f5.params.toList args.toList ds p := hA0
  rw [Try.params5] at hA
  obtain ⟨hargs, rfl, rfl⟩ := trodAll_nil hA
  obtain rfl : args = #[] := by cases args; simp_all
  obtain ⟨rfl, rfl⟩ := trodVars_none hV
  clear hA0 hval0
  refine (FnExactFixRewriter_walk W).mono fun e W' ⟨he, bel⟩ => ?_
  subst he
  exact ⟨_, rfl, _, _, _, [], _, [], hW', trodAll_mk1 (shut_bool Try.underlying4 _), trodAll_mk0, rfl, bel.frame _, fun h => by cases h⟩

theorem over : Rows.fnExactFixRewriterRow.holds Try.pinned (OpenSpec.ofChange Rows.fnExactFixRewriterSpec) :=
  OpenClaim.holds_of_wide 5 Try.f5 rfl rfl rfl rfl rfl rfl rfl ⟨rfl, rfl, rfl, rfl, rfl⟩ rfl rfl rfl rfl rfl (by kernel_rfl) Try.func5 (by kernel_rfl)
    (of_decide_eq_true (by kernel_rfl)) (by unfold Func.isWrapper; first | (rw [if_pos (by decide +kernel)]; kernel_rfl) | (rw [if_neg (by decide +kernel)]; exact ⟨rfl, rfl⟩))
    (fun os started H enc _ => lifted os started H enc)

theorem proved : Rows.FnExactFixRewriterSaid := over
#print axioms proved
end Go.Proofs.Ytmkamodmnplclaa.fnExactFixRewriterDone
