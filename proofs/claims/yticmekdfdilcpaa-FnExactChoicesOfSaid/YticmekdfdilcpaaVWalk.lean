/- FnExactValidChecker walked, the model's answer taken as given. -/
import Derived.Test.YticmekdfdilcpaaValid
import Derived.Deep.RegionWith
namespace Go.Proofs.Yticmekdfdilcpaa
open Go.RowKit

set_option maxHeartbeats 1600000 in
theorem impl_ValidChecker {base : Nat} {v : Value} {c : Ck} {bs : List Nat} (w : World) (hc : BdC c) (h : CkE base w v c bs) : Calls Try.prog 52 #[v] w (SeenPost (.bool (okM c)) w) := by
  obtain ⟨va, vc, vr, vi, b1, b2, b3, b4, rfl, h1, h2, h3, h4, _, _⟩ := h
  obtain ⟨A, ka, rfl⟩ := RowE.slice h1
  obtain ⟨B, kb, rfl⟩ := ManyE.slice h2
  obtain ⟨R, kr, rfl⟩ := ManyE.slice h3
  obtain ⟨I, ki, rfl⟩ := ManyE.slice h4
  cases hh : hdM c.stack c.start c.accept.length c.call.length c.ret.length c.inner.length with
  | false =>
    rw [okM, hh, Bool.false_and]
    exact impl_head_no A B R I _ ka _ kb _ kr _ ki _ _ w hc.accept hc.call.1 hc.ret.1 hc.inner.1 hh
  | true =>
    obtain ⟨e1, e2, e3, e4, e5, e6, e7, e8⟩ := hdM_yes hh
    rw [okM, hh, Bool.true_and]
    clear hh
    rw [e5] at h2
    rw [e6] at h3
    rw [e7] at h4
    rw [e5, e6, e7]
    exact impl_states A B R I _ ka kb kr ki _ _ _ _ _ b2 b3 b4 w h2 h3 h4 hc.call hc.ret hc.inner e5 e6 e7 e1 e2 e3 e4 e8

end Go.Proofs.Yticmekdfdilcpaa
