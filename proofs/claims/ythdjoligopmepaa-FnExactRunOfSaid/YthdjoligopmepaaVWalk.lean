/- FnExactValidChecker walked, the model's answer taken as given. -/
import Derived.Test.YthdjoligopmepaaValid
import Derived.Deep.RegionWith
namespace Go.Proofs.Ythdjoligopmepaa
open Go.RowKit

set_option maxHeartbeats 1600000 in
theorem impl_ValidChecker {base : Nat} {v : Value} {c : Ck} {bs : List Nat} (w : World) (hc : BdC c) (h : CkE base w v c bs) : Calls Try.prog 12 #[v] w (SeenPost (.bool (okM c)) w) := by
  obtain ⟨va, vc, vr, vi, b1, b2, b3, b4, rfl, h1, h2, h3, h4, _, _⟩ := h
  obtain ⟨A, ka, rfl⟩ := RowE.slice h1
  obtain ⟨B, kb, rfl⟩ := ManyE.slice h2
  obtain ⟨R, kr, rfl⟩ := ManyE.slice h3
  obtain ⟨I, ki, rfl⟩ := ManyE.slice h4
  cases hh : hdM c.stack c.start c.accept.length c.call.length c.ret.length c.inner.length with
  | false =>
    rw [okM, hh, Bool.false_and]
    exact impl_head_no A B R I _ ka _ kb _ kr _ ki _ _ w hc.accept hc.call.1 hc.ret.1 hc.inner.1 hh
  | true =>
    obtain ⟨e1, e2, e3, e4, e5, e6, e7, e8⟩ := hdM_yes hh
    rw [okM, hh, Bool.true_and]
    clear hh
    rw [e5] at h2
    rw [e6] at h3
    rw [e7] at h4
    rw [e5, e6, e7]
    exact impl_states A B R I _ ka kb kr ki _ _ _ _ _ b2 b3 b4 w h2 h3 h4 hc.call hc.ret hc.inner e5 e6 e7 e1 e2 e3 e4 e8

set_option linter.unusedVariables false
set_option maxHeartbeats 6400000 in
set_option maxRecDepth 100000 in
theorem FnExactValidChecker_by (HS0 : ∀ (base : Nat) (v : Value) (c : Ck) (bs : List Nat) (w : World), BdC c → CkE base w v c bs → Calls Try.prog 10 #[v] w (SeenPost (.bool (okM c)) w)) (v : Value) (c : Ck) (w : World) (ha : CkR w v c) :
    Calls Try.prog 3 #[v] w fun e w' => e = .returned (.bool true) ∧ Below w.heap.size w w' := by
  have HS := Lib.hid HS0
  clear HS0
  have ha0 := ha
  obtain ⟨va, vc, vr, vi, rfl, h1, h2, h3, h4⟩ := ha
  obtain ⟨A, ka, rfl, _⟩ := id h1
  obtain ⟨B, kb, rfl, _⟩ := id h2
  obtain ⟨R, kr, rfl, _⟩ := id h3
  obtain ⟨I, ki, rfl, _⟩ := id h4
  clear h1 h2 h3 h4
  obtain ⟨b, hb⟩ : ∃ b, b = okM c := ⟨_, rfl⟩
  have Hb := Lib.hid hb
  obtain ⟨na, hna⟩ : ∃ n, n = c.accept.length := ⟨_, rfl⟩
  obtain ⟨nb, hnb⟩ : ∃ n, n = c.call.length := ⟨_, rfl⟩
  obtain ⟨nr, hnr⟩ : ∃ n, n = c.ret.length := ⟨_, rfl⟩
  obtain ⟨ni, hni⟩ : ∃ n, n = c.inner.length := ⟨_, rfl⟩
  obtain ⟨s0, hs0⟩ : ∃ n, n = c.stack := ⟨_, rfl⟩
  obtain ⟨s1, hs1⟩ : ∃ n, n = c.start := ⟨_, rfl⟩
  rw [← hna, ← hnb, ← hnr, ← hni, ← hs0, ← hs1] at ha0 ⊢
  clear hb hna hnb hnr hni
  have Hs0 := Lib.hid hs0
  have Hs1 := Lib.hid hs1
  clear hs0 hs1
  have hB0 := (Below.refl w.heap.size w).alloc (Nat.le_refl _) (.cells #[.int .i64 s0, .int .i64 s1, .slice A na ka, .slice B nb kb, .slice R nr kr, .slice I ni ki] 27)
  have box0 := Box6.new w (.int .i64 s0) (.int .i64 s1) (.slice A na ka) (.slice B nb kb) (.slice R nr kr) (.slice I ni ki) 27
  have ha1 := Lib.hid (ck_r.later ha0 hB0)
  have q0 : Calls Try.prog 9 #[.agg #[.int .i64 s0, .int .i64 s1, .slice A na ka, .slice B nb kb, .slice R nr kr, .slice I ni ki], .int .i64 1048576] (w.alloc (.cells #[.int .i64 s0, .int .i64 s1, .slice A na ka, .slice B nb kb, .slice R nr kr, .slice I ni ki] 27)) _ := sz_checker 1048576 _ (Nat.le_refl _) ha1.out
  by_cases t : cntC c ≤ 1048576
  case neg =>
    rw [dec_no t] at q0
    have Q0 := Lib.hid q0
    clear q0 t
    go_enter Try.func3, Try.ntmps3
    go_wp2_with fail
    refine Q0.out.mono ?_
    rintro e w1 ⟨rfl, hb1⟩
    go_wp2
    go_ret
    exact ⟨rfl, hB0.trans (hb1.mono hB0.size)⟩
  have hbd := bd_of_cnt t
  rw [dec_yes t] at q0
  generalize 1048576 - cntC c = l at q0
  have Q0 := Lib.hid q0
  have Hbd := Lib.hid hbd
  clear q0 t hbd ha0
  go_enter Try.func3, Try.ntmps3
  go_wp2_with fail
  refine Q0.out.mono ?_
  rintro e w1 ⟨rfl, hb1⟩
  have box1 := box0.later hb1
  have hB1 := hB0.trans (hb1.mono hB0.size)
  have ha2 := Lib.hid (ck_r.later ha1.out hb1)
  clear Q0
  obtain ⟨p0, p1, p2, p3, p4, p5, pl⟩ := id box1
  go_wp2_with fail
  refine (to_checker w1 Hbd.out ha2.out).mono ?_
  rintro e w2 ⟨v2, bs2, rfl, E2, hb2⟩
  have box2 := box1.later hb2
  have hB2 := hB1.trans (hb2.mono hB1.size)
  have ha3 := Lib.hid (ck_r.later ha2.out hb2)
  clear p0 p1 p2 p3 p4 p5 pl
  obtain ⟨p0, p1, p2, p3, p4, p5, pl⟩ := id box2
  go_wp2_with fail
  refine (HS.out _ _ c _ w2 Hbd.out E2).mono ?_
  rw [← Hb.out]
  rintro e w3 ⟨rfl, hb3⟩
  have box3 := box2.later hb3
  have hB3 := hB2.trans (hb3.mono hB2.size)
  have ha4 := Lib.hid (ck_r.later ha3.out hb3)
  clear p0 p1 p2 p3 p4 p5 pl
  obtain ⟨p0, p1, p2, p3, p4, p5, pl⟩ := id box3
  go_wp2_with fail
  refine (to_checker w3 Hbd.out ha4.out).mono ?_
  rintro e w4 ⟨v4, bs4, rfl, E4, hb4⟩
  have box4 := box3.later hb4
  have hB4 := hB3.trans (hb4.mono hB3.size)
  have ha5 := Lib.hid (ck_r.later ha4.out hb4)
  obtain ⟨a2, na2, ca2, c2, nc2, cc2, r2, nr2, cr2, i2, ni2, ci2, rfl⟩ := E4.form
  rw [← Hs0.out, ← Hs1.out] at E4
  rw [← Hs0.out, ← Hs1.out]
  have boxn := Box6.new w4 (.int .i64 s0) (.int .i64 s1) (.slice a2 na2 ca2) (.slice c2 nc2 cc2) (.slice r2 nr2 cr2) (.slice i2 ni2 ci2) 32
  have hn2 := (Below.refl _ w4).alloc (Nat.le_refl _) (.cells #[.int .i64 s0, .int .i64 s1, .slice a2 na2 ca2, .slice c2 nc2 cc2, .slice r2 nr2 cr2, .slice i2 ni2 ci2] 32)
  have E5 := (ck_ok _).later E4 hn2
  have box5 := box4.later hn2
  have hB5 := hB4.alloc hB4.size (.cells #[.int .i64 s0, .int .i64 s1, .slice a2 na2 ca2, .slice c2 nc2 cc2, .slice r2 nr2 cr2, .slice i2 ni2 ci2] 32)
  have ha6 := Lib.hid (ck_r.later ha5.out hn2)
  clear p0 p1 p2 p3 p4 p5 pl
  obtain ⟨p0, p1, p2, p3, p4, p5, pl⟩ := id box4
  obtain ⟨s0', s1', s2', s3', s4', s5', sl⟩ := id boxn
  go_wp2_with fail
  refine (impl_ValidChecker _ Hbd.out E5).mono ?_
  rw [← Hb.out]
  rintro e w6 ⟨rfl, hb6⟩
  have E6 := Lib.hid ((ck_ok _).later E5 hb6)
  have box6 := box5.later hb6
  have boxn6 := boxn.later hb6
  have hB6 := hB5.trans (hb6.mono hB5.size)
  have ha7 := Lib.hid (ck_r.later ha6.out hb6)
  clear p0 p1 p2 p3 p4 p5 pl s0' s1' s2' s3' s4' s5' sl
  obtain ⟨p0, p1, p2, p3, p4, p5, pl⟩ := id box6
  obtain ⟨s0', s1', s2', s3', s4', s5', sl⟩ := id boxn6
  have hR := Below.refl w6.heap.size w6
  have Hto := Lib.hid fun (W : World) (hw : Below w6.heap.size w6 W) => to_checker W Hbd.out (ck_r.later ha7.out hw)
  have Heq := Lib.hid fun (W : World) (hw : Below w6.heap.size w6 W) (base : Nat) (v' : Value) (bs : List Nat) (h : CkE base W v' c bs) => eq_checker W Hbd.out ((ck_ok _).later E6.out hw) h
  clear ha1 ha2 ha3 ha4 ha5 ha6 ha7 E6 E5 E4 E2 box1 box2 box3 box4 box5 box0 boxn HS hb1 hb2 hb3 hb4 hn2 hb6 hB0 hB1 hB2 hB3 hB4 hB5
  go_wp2_with fail
  go_region_with (first
    | (go_at_call 11
       refine (Hto.out _ (by first | exact hR.drew | exact hR)).mono ?_
       rintro e w7 ⟨v7, bs7, rfl, E7, hb7⟩
       have hw7 : Below w6.heap.size w6 w7 := by first | exact hR.drew.trans (hb7.mono hR.drew.size) | exact hb7
       have y0 := (boxn6.later hw7).c0
       have y1 := (boxn6.later hw7).c1
       have y2 := (boxn6.later hw7).c2
       have y3 := (boxn6.later hw7).c3
       have y4 := (boxn6.later hw7).c4
       have y5 := (boxn6.later hw7).c5)
    | (go_at_call 13
       refine (Heq.out _ hw7 _ _ _ E7).mono ?_
       rintro e w8 ⟨rfl, hb8⟩
       have hw8 := hB6.trans ((hw7.trans (hb8.mono hw7.size)).mono hB6.size)))
  all_goals
    go_wp2
    go_ret
    exact ⟨rfl, hw8⟩
end Go.Proofs.Ythdjoligopmepaa
