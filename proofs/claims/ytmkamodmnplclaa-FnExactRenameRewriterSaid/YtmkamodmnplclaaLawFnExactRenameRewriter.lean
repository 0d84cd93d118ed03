/- The law FnExactRenameRewriter returns true at every input: no condition. -/
import Derived.Test.YtmkamodmnplclaaKnRenI
import Derived.Test.YtmkamodmnplclaaBox5
import Derived.WalkKit
import Derived.ProofKit
import Derived.OpenShut
import Derived.ShutString
import Derived.ChangeOld
import Derived.Below
namespace Go.Proofs.Ytmkamodmnplclaa
open Go.RowKit
set_option linter.unusedVariables false

set_option maxHeartbeats 25600000 in
set_option maxRecDepth 100000 in
theorem FnExactRenameRewriter_walk (a0 : ByteArray) (w : World) (w0 : a0.size ≤ maxLen) :
    Calls Try.prog 9 #[.string a0] w fun e w' => e = .returned (.bool true) ∧ Below w.heap.size w w' := by
  unfold maxLen at w0
  by_cases hs0 : a0.size ≤ 1048576
  case' neg =>
    have h0 : 1048576 < a0.size := by omega
    clear hs0
    go_enter Try.func9, Try.ntmps9
    go_wp2
    go_ret
    exact ⟨rfl, Below.refl _ _⟩
  obtain ⟨rk, r1, hx0, hS, hI⟩ := both_RenameRewriter a0 hs0
  have HS := Lib.hid hS
  have HI := Lib.hid hI
  clear hS hI
  have hm0 := hx0.sum
  obtain ⟨k0, hk0⟩ : ∃ k, k = 1 + szRw rk := ⟨_, rfl⟩
  have lk0 : k0 ≤ 8388608 := by omega
  have Hk0 := Lib.hid hk0
  have Hbd := Lib.hid hx0
  clear hk0 hx0 hm0
  obtain ⟨t0, ht0⟩ : ∃ n, n = rk.stack := ⟨_, rfl⟩
  obtain ⟨t1, ht1⟩ : ∃ n, n = rk.start := ⟨_, rfl⟩
  have Ht := Lib.hid (And.intro ht0 ht1)
  clear ht0 ht1
  have hB := Below.refl w.heap.size w
  go_enter Try.func9, Try.ntmps9
  go_wp2_with fail
  refine (HS.out _).mono ?_
  rintro e w101 ⟨S0, Sbs0, rfl, SE0, hb101⟩
  replace hB := hB.trans (hb101.mono hB.size)
  have slt0 := fun b hb => ((rewriter_ok _).lt SE0 b hb).2
  have sz1 := hB.size
  obtain ⟨Sa, nSa, kSa, Sc, nSc, kSc, Sr, nSr, kSr, rfl⟩ := SE0.form
  rw [← Ht.out.1, ← Ht.out.2] at SE0
  rw [← Ht.out.1, ← Ht.out.2]
  have Sb := Box5.new w101 (.int .i64 t0) (.int .i64 t1) (.slice Sa nSa kSa) (.slice Sc nSc kSc) (.slice Sr nSr kSr) 36
  have hnS := (Below.refl _ w101).alloc (Nat.le_refl _) (.cells #[.int .i64 t0, .int .i64 t1, .slice Sa nSa kSa, .slice Sc nSc kSc, .slice Sr nSr kSr] 36)
  replace SE0 := (rewriter_ok _).later SE0 hnS
  replace hB := hB.alloc hB.size (.cells #[.int .i64 t0, .int .i64 t1, .slice Sa nSa kSa, .slice Sc nSc kSc, .slice Sr nSr kSr] 36)
  obtain ⟨S0, S1, S2, S3, S4, Sl⟩ := id Sb
  go_wp2_with fail
  refine (HI.out _).mono ?_
  rintro e w102 ⟨G0, Gbs0, rfl, GE0, hb102⟩
  clear S0 S1 S2 S3 S4 Sl
  replace SE0 := (rewriter_ok _).later SE0 hb102
  replace Sb := Sb.later hb102
  replace hB := hB.trans (hb102.mono hB.size)
  have sz2 : w101.heap.size + 1 ≤ w102.heap.size := by have := hb102.size; rw [World.size_alloc] at this; exact this
  rw [World.size_alloc] at GE0
  have glt0 := fun b hb => (rewriter_ok _).lt GE0 b hb
  obtain ⟨Ga, nGa, kGa, Gc, nGc, kGc, Gr, nGr, kGr, rfl⟩ := GE0.form
  rw [← Ht.out.1, ← Ht.out.2] at GE0
  rw [← Ht.out.1, ← Ht.out.2]
  have Gb := Box5.new w102 (.int .i64 t0) (.int .i64 t1) (.slice Ga nGa kGa) (.slice Gc nGc kGc) (.slice Gr nGr kGr) 36
  have hnG := (Below.refl _ w102).alloc (Nat.le_refl _) (.cells #[.int .i64 t0, .int .i64 t1, .slice Ga nGa kGa, .slice Gc nGc kGc, .slice Gr nGr kGr] 36)
  replace SE0 := (rewriter_ok _).later SE0 hnG
  replace GE0 := (rewriter_ok _).later GE0 hnG
  replace Sb := Sb.later hnG
  replace hB := hB.alloc hB.size (.cells #[.int .i64 t0, .int .i64 t1, .slice Ga nGa kGa, .slice Gc nGc kGc, .slice Gr nGr kGr] 36)
  obtain ⟨S0, S1, S2, S3, S4, Sl⟩ := id Sb
  obtain ⟨G0, G1, G2, G3, G4, Gl⟩ := id Gb
  go_wp2_with fail
  refine (eq_rewriter _ Hbd.out GE0 SE0).mono ?_
  rintro e w103 ⟨rfl, hb103⟩
  clear S0 S1 S2 S3 S4 Sl
  clear G0 G1 G2 G3 G4 Gl
  replace SE0 := (rewriter_ok _).later SE0 hb103
  replace GE0 := (rewriter_ok _).later GE0 hb103
  replace Sb := Sb.later hb103
  replace Gb := Gb.later hb103
  replace hB := hB.trans (hb103.mono hB.size)
  have far : (∀ b ∈ Gbs0, w.heap.size ≤ b) ∧ w101.heap.size ∉ Gbs0 ∧ w102.heap.size ∉ Gbs0 ∧ (∀ b ∈ Sbs0, b ∉ Gbs0) := by
    refine ⟨fun b h => ?_, fun h => ?_, fun h => ?_, fun b h1 h2 => ?_⟩
    · have := (glt0 b h).1; omega
    · have := (glt0 _ h).1; omega
    · have := (glt0 _ h).2; omega
    · have := slt0 _ h1; have := (glt0 _ h2).1; omega
  have Far := Lib.hid far
  clear far
  have mk0 := mark_rewriter 1 _ Hbd.out (by omega) GE0
  rw [← Hk0.out] at mk0
  have MK0 := Lib.hid mk0
  clear mk0
  obtain ⟨S0, S1, S2, S3, S4, Sl⟩ := id Sb
  obtain ⟨G0, G1, G2, G3, G4, Gl⟩ := id Gb
  go_wp2_with fail
  refine MK0.out.mono ?_
  rintro e w104 ⟨rfl, GE1, hb104⟩
  clear S0 S1 S2 S3 S4 Sl
  clear G0 G1 G2 G3 G4 Gl
  clear GE0
  replace SE0 := (rewriter_ok _).off SE0 hb104 Far.out.2.2.2
  replace Sb := Sb.off hb104 Far.out.2.1
  replace Gb := Gb.off hb104 Far.out.2.2.1
  replace hB := hb104.below hB hB.size Far.out.1
  have hd0 := held_rewriter 1 _ Hbd.out (by omega) GE1
  rw [← Hk0.out] at hd0
  have HD0 := Lib.hid hd0
  clear hd0
  obtain ⟨S0, S1, S2, S3, S4, Sl⟩ := id Sb
  obtain ⟨G0, G1, G2, G3, G4, Gl⟩ := id Gb
  go_wp2_with fail
  refine HD0.out.mono ?_
  rintro e w105 ⟨rfl, hb105⟩
  clear S0 S1 S2 S3 S4 Sl
  clear G0 G1 G2 G3 G4 Gl
  clear HD0
  replace SE0 := (rewriter_ok _).later SE0 hb105
  replace GE1 := (rewriter_ok _).later GE1 hb105
  replace Sb := Sb.later hb105
  replace Gb := Gb.later hb105
  replace hB := hB.trans (hb105.mono hB.size)
  obtain ⟨S0, S1, S2, S3, S4, Sl⟩ := id Sb
  obtain ⟨G0, G1, G2, G3, G4, Gl⟩ := id Gb
  go_wp2_with fail
  refine (HI.out _).mono ?_
  rintro e w106 ⟨H0, Hbs0, rfl, HE0, hb106⟩
  clear S0 S1 S2 S3 S4 Sl
  clear G0 G1 G2 G3 G4 Gl
  replace SE0 := (rewriter_ok _).later SE0 hb106
  replace GE1 := (rewriter_ok _).later GE1 hb106
  replace Sb := Sb.later hb106
  replace Gb := Gb.later hb106
  replace hB := hB.trans (hb106.mono hB.size)
  obtain ⟨Ha, nHa, kHa, Hc, nHc, kHc, Hr, nHr, kHr, rfl⟩ := HE0.form
  rw [← Ht.out.1, ← Ht.out.2] at HE0
  rw [← Ht.out.1, ← Ht.out.2]
  have Hb := Box5.new w106 (.int .i64 t0) (.int .i64 t1) (.slice Ha nHa kHa) (.slice Hc nHc kHc) (.slice Hr nHr kHr) 36
  have hnH := (Below.refl _ w106).alloc (Nat.le_refl _) (.cells #[.int .i64 t0, .int .i64 t1, .slice Ha nHa kHa, .slice Hc nHc kHc, .slice Hr nHr kHr] 36)
  replace SE0 := (rewriter_ok _).later SE0 hnH
  replace GE1 := (rewriter_ok _).later GE1 hnH
  replace HE0 := (rewriter_ok _).later HE0 hnH
  replace Sb := Sb.later hnH
  replace Gb := Gb.later hnH
  replace hB := hB.alloc hB.size (.cells #[.int .i64 t0, .int .i64 t1, .slice Ha nHa kHa, .slice Hc nHc kHc, .slice Hr nHr kHr] 36)
  obtain ⟨S0, S1, S2, S3, S4, Sl⟩ := id Sb
  obtain ⟨G0, G1, G2, G3, G4, Gl⟩ := id Gb
  obtain ⟨H0, H1, H2, H3, H4, Hl⟩ := id Hb
  go_wp2_with fail
  refine (eq_rewriter _ Hbd.out HE0 SE0).mono ?_
  rintro e w107 ⟨rfl, hb107⟩
  clear S0 S1 S2 S3 S4 Sl
  clear G0 G1 G2 G3 G4 Gl
  clear H0 H1 H2 H3 H4 Hl
  replace SE0 := (rewriter_ok _).later SE0 hb107
  replace GE1 := (rewriter_ok _).later GE1 hb107
  replace HE0 := (rewriter_ok _).later HE0 hb107
  replace Sb := Sb.later hb107
  replace Gb := Gb.later hb107
  replace Hb := Hb.later hb107
  replace hB := hB.trans (hb107.mono hB.size)
  have hd0 := held_rewriter 1 _ Hbd.out (by omega) GE1
  rw [← Hk0.out] at hd0
  have HD0 := Lib.hid hd0
  clear hd0
  obtain ⟨S0, S1, S2, S3, S4, Sl⟩ := id Sb
  obtain ⟨G0, G1, G2, G3, G4, Gl⟩ := id Gb
  obtain ⟨H0, H1, H2, H3, H4, Hl⟩ := id Hb
  go_wp2_with fail
  refine HD0.out.mono ?_
  rintro e w108 ⟨rfl, hb108⟩
  clear S0 S1 S2 S3 S4 Sl
  clear G0 G1 G2 G3 G4 Gl
  clear H0 H1 H2 H3 H4 Hl
  clear HD0
  replace SE0 := (rewriter_ok _).later SE0 hb108
  replace GE1 := (rewriter_ok _).later GE1 hb108
  replace HE0 := (rewriter_ok _).later HE0 hb108
  replace Sb := Sb.later hb108
  replace Gb := Gb.later hb108
  replace Hb := Hb.later hb108
  replace hB := hB.trans (hb108.mono hB.size)
  go_wp2
  go_ret
  exact ⟨rfl, hB⟩
end Go.Proofs.Ytmkamodmnplclaa

namespace Go.Proofs.Ytmkamodmnplclaa.fnExactRenameRewriterDone
open Go.ChangeShapes Go.WideShapes Go.ChangeAt Go.RowKit
open Go.ChangeMaps (open_string shut_string)
set_option linter.unusedVariables false

theorem own : ownKnob Try.prog.godebug = none := by kernel_rfl
theorem laidOut : laidOutB Try.prog = true := by kernel_rfl

set_option maxRecDepth 100000 in
theorem lifted (os : Os) (started : os.Started) (H : Type) (enc : TypeId × Value → H) :
    ReturnsInHanded {} Try.checked os 9 .any (Rows.fnExactRenameRewriterSpec.pre6 enc Try.prog Try.f9 Rows.fnExactRenameRewriterRow.domain false) (Rows.fnExactRenameRewriterSpec.post enc Try.prog Try.f9 false true false false) := by
  refine returnsInHanded_of_change (C := Try.checked) own started (by kernel_rfl) Try.func9
    (ChangeSpec.witness6 (enc := enc) (C := Try.checked) false ⟨#[], #[.string ByteArray.empty], []⟩ 8 (by kernel_rfl) (by kernel_rfl) (by kernel_rfl) (by kernel_rfl)) ?_
  intro W base args ds gs before hval0 hW hcnd _
  have hval : ∀ (j : Nat) t v, Try.f9.params[j]? = some t → args[j]? = some v → Value.okWide Try.prog W .any base t v := hval0
  have hW' := hW
  obtain ⟨p, q, hA0, hV, rfl, hfz, hnd⟩ := hW
  have hA : DataW.TrodAll enc Try.prog W 0 (fun _ => true) true Try.f9.params.toList args.toList ds p := hA0
  rw [Try.params9] at hA hval
  obtain ⟨v0, vs0, d0, ds0, p0, q0, hargs, rfl, rfl, h0, r0⟩ := trodAll_cons hA
  obtain ⟨rfl, rfl, rfl⟩ := trodAll_nil r0
  obtain rfl : args = #[v0] := by cases args; simp_all
  obtain ⟨rfl, rfl⟩ := trodVars_none hV
  obtain ⟨a0, rfl, rfl, rfl, w0⟩ := open_string Try.underlying9 (hval 0 9 v0 rfl rfl) h0
  clear hA0 hval0
  refine (FnExactRenameRewriter_walk a0 W w0).mono fun e W' ⟨he, bel⟩ => ?_
  subst he
  exact ⟨_, rfl, _, _, _, [], _, [], hW', trodAll_mk1 (shut_bool Try.underlying4 _), (trodAll_cons_mk (shut_string Try.underlying9 w0) trodAll_mk0), rfl, bel.frame _, fun h => by cases h⟩

theorem over : Rows.fnExactRenameRewriterRow.holds Try.pinned (OpenSpec.ofChange Rows.fnExactRenameRewriterSpec) :=
  OpenClaim.holds_of_wide 9 Try.f9 rfl rfl rfl rfl rfl rfl rfl ⟨rfl, rfl, rfl, rfl, rfl⟩ rfl rfl rfl rfl rfl (by kernel_rfl) Try.func9 (by kernel_rfl)
    (of_decide_eq_true (by kernel_rfl)) (by unfold Func.isWrapper; first | (rw [if_pos (by decide +kernel)]; kernel_rfl) | (rw [if_neg (by decide +kernel)]; exact ⟨rfl, rfl⟩))
    (fun os started H enc _ => lifted os started H enc)

theorem proved : Rows.FnExactRenameRewriterSaid := over
#print axioms proved
end Go.Proofs.Ytmkamodmnplclaa.fnExactRenameRewriterDone
