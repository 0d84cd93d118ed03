/- l02Ok of the model, wherever its argument lies. -/
import Derived.Test.YticmekdfdilcpaaOk
import Derived.Test.YticmekdfdilcpaaVWalk
import Derived.Test.YticmekdfdilcpaaSpecValid
import Derived.Test.YticmekdfdilcpaaBox
namespace Go.Proofs.Yticmekdfdilcpaa
open Go.RowKit
set_option linter.unusedVariables false
set_option maxHeartbeats 1600000 in
set_option maxRecDepth 100000 in
theorem spec_l02Ok6 {base B : Nat} {va vc vr vi : Value} {c : Ck} {b1 b2 b3 b4 : List Nat} (w : World) (hc : BdC c) (hb : Box6 w B (.int .i64 c.stack) (.int .i64 c.start) va vc vr vi)
    (h1 : BoolsE base w va c.accept b1) (h2 : Push2E base w vc c.call b2) (h3 : Ints3E base w vr c.ret b3) (h4 : Ints2E base w vi c.inner b4) :
    Calls Try.prog 47 #[.pointer (some ⟨B, 0, none⟩)] w (SeenPost (.bool (okM c)) w) := by
  obtain ⟨A, ka, rfl⟩ := RowE.slice h1
  obtain ⟨C, kb, rfl⟩ := ManyE.slice h2
  obtain ⟨R, kr, rfl⟩ := ManyE.slice h3
  obtain ⟨I, ki, rfl⟩ := ManyE.slice h4
  rw [okM_okB]
  have hbx := hb
  cases hh : hdB c.stack c.start c.accept.length c.call.length c.ret.length c.inner.length with
  | false =>
    rw [okB, hh, Bool.false_and]
    refine (spec_head_no _ A C R I _ ka _ kb _ kr _ ki _ _ _ hc.accept hc.call.1 hc.ret.1 hc.inner.1 hbx hh).mono ?_
    rintro e w' ⟨rfl, rfl⟩
    exact ⟨rfl, Below.refl _ _⟩
  | true =>
    obtain ⟨e1, e2, e3, e4, e5, e6, e7, e8⟩ := hdM_yes hh
    rw [okB, hh, Bool.true_and]
    clear hh
    rw [e5] at h2
    rw [e6] at h3
    rw [e7] at h4
    rw [e5, e6, e7] at hbx
    refine (spec_loop _ A C R I _ ka kb kr ki _ _ _ _ _ b2 b3 b4 _ hbx h2 h3 h4 hc.call hc.ret hc.inner e5 e6 e7 ?_ ?_ e8).mono ?_
    · simp only [rngB, decide_eq_true_eq]
      omega
    · simp only [rngB, decide_eq_true_eq]
      omega
    · rintro e w' ⟨rfl, m, rfl⟩
      exact ⟨rfl, below_drewN (Below.refl _ _) m⟩
theorem spec_l02Ok {base B : Nat} {va vc vr vi : Value} {c : Ck} {b1 b2 b3 b4 : List Nat} (w : World) (hc : BdC c) (hb : Bx w B 46 #[.int .i64 c.stack, .int .i64 c.start, va, vc, vr, vi])
    (h1 : BoolsE base w va c.accept b1) (h2 : Push2E base w vc c.call b2) (h3 : Ints3E base w vr c.ret b3) (h4 : Ints2E base w vi c.inner b4) :
    Calls Try.prog 47 #[.pointer (some ⟨B, 0, none⟩)] w (SeenPost (.bool (okM c)) w) := by
  obtain ⟨c0, c1, c2, c3, c4, c5, cl⟩ := hb.all6
  exact spec_l02Ok6 w hc ⟨c0, c1, c2, c3, c4, c5, cl⟩ h1 h2 h3 h4
end Go.Proofs.Yticmekdfdilcpaa
