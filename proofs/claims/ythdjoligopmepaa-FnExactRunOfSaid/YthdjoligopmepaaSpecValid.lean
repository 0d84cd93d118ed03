/- ValidChecker of the model. -/
import Derived.Test.YthdjoligopmepaaOk
import Derived.Test.YthdjoligopmepaaVWalk
namespace Go.Proofs.Ythdjoligopmepaa
open Go.RowKit
set_option linter.unusedVariables false
theorem mv_st (n stack : Int) (cs : List (Int × Int)) (rs : List (List Int)) (ns : List Int) : mvB n stack cs rs ns = stB n stack cs rs ns := by
  unfold mvB stB
  by_cases l2 : cs.length = 2
  case neg => simp [l2]
  by_cases l3 : rs.length = 2
  case neg => simp [l3]
  match cs, l2, rs, l3 with
  | [x, y], _, [r, s], _ =>
    have e : decide ((ns.length : Int) = 2) = decide (ns.length = 2) := decide_eq_decide.2 (by omega)
    have el : listB ns 2 n = (decide (ns.length = 2) && allB ns n) := by rw [listB, e]
    have et : twoB n stack [x, y] [r, s] 2 = (kB n stack x r && kB n stack y s) := by simp [twoB, List.range_succ]
    have ec : [x, y].all (pB n stack) = (pB n stack x && pB n stack y) := by simp
    have er : ([r, s].all fun r => listB r (stack + 1) n) = (listB r (stack + 1) n && listB s (stack + 1) n) := by simp
    rw [el, et, ec, er, kB, kB, pB, pB]
    ac_rfl
theorem okM_okB (c : Ck) : okM c = okB c := by
  unfold okM okB allM allS
  simp only [mv_st]
  rfl

set_option maxHeartbeats 1600000 in
set_option maxRecDepth 100000 in
theorem spec_ValidChecker (base : Nat) (v : Value) (c : Ck) (bs : List Nat) (w : World) (hc : BdC c) (h : CkE base w v c bs) : Calls Try.prog 10 #[v] w (SeenPost (.bool (okM c)) w) := by
  obtain ⟨va, vc, vr, vi, b1, b2, b3, b4, rfl, h1, h2, h3, h4, _, _⟩ := h
  obtain ⟨A, ka, rfl⟩ := RowE.slice h1
  obtain ⟨B, kb, rfl⟩ := ManyE.slice h2
  obtain ⟨R, kr, rfl⟩ := ManyE.slice h3
  obtain ⟨I, ki, rfl⟩ := ManyE.slice h4
  rw [okM_okB]
  have hB := (Below.refl w.heap.size w).alloc (Nat.le_refl _) (.cells #[.int .i64 c.stack, .int .i64 c.start, .slice A c.accept.length ka, .slice B c.call.length kb, .slice R c.ret.length kr, .slice I c.inner.length ki] 32)
  have hbx := Box6.new w (.int .i64 c.stack) (.int .i64 c.start) (.slice A c.accept.length ka) (.slice B c.call.length kb) (.slice R c.ret.length kr) (.slice I c.inner.length ki) 32
  have key : Calls Try.prog 33 #[.pointer (some ⟨w.heap.size, 0, none⟩)] (w.alloc (.cells #[.int .i64 c.stack, .int .i64 c.start, .slice A c.accept.length ka, .slice B c.call.length kb, .slice R c.ret.length kr, .slice I c.inner.length ki] 32)) (SeenPost (.bool (okB c)) w) := by
    cases hh : hdB c.stack c.start c.accept.length c.call.length c.ret.length c.inner.length with
    | false =>
      rw [okB, hh, Bool.false_and]
      refine (spec_head_no _ A B R I _ ka _ kb _ kr _ ki _ _ _ hc.accept hc.call.1 hc.ret.1 hc.inner.1 hbx hh).mono ?_
      rintro e w' ⟨rfl, rfl⟩
      exact ⟨rfl, hB⟩
    | true =>
      obtain ⟨e1, e2, e3, e4, e5, e6, e7, e8⟩ := hdM_yes hh
      rw [okB, hh, Bool.true_and]
      clear hh
      rw [e5] at h2
      rw [e6] at h3
      rw [e7] at h4
      rw [e5, e6, e7] at hbx hB ⊢
      refine (spec_loop _ A B R I _ ka kb kr ki _ _ _ _ _ b2 b3 b4 _ hbx ((push2_ok _).later h2 hB) ((ints3_ok _).later h3 hB) ((ints2_ok _).later h4 hB) hc.call hc.ret hc.inner e5 e6 e7 ?_ ?_ e8).mono ?_
      · simp only [rngB, decide_eq_true_eq]
        omega
      · simp only [rngB, decide_eq_true_eq]
        omega
      · rintro e w' ⟨rfl, m, rfl⟩
        exact ⟨rfl, below_drewN hB m⟩
  have Key := Lib.hid key
  clear key hB hbx h1 h2 h3 h4
  generalize okB c = b at Key ⊢
  go_enter Try.func10, Try.ntmps10
  go_wp2_with fail
  refine Key.out.mono ?_
  rintro e w' ⟨rfl, hb⟩
  go_wp2
  go_ret
  exact ⟨rfl, hb⟩
end Go.Proofs.Ythdjoligopmepaa
