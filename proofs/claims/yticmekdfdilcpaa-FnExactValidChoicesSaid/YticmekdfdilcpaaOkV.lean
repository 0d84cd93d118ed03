/- ValidChoices of the program, and of both. -/
import Derived.Test.YticmekdfdilcpaaOkHI
import Derived.Test.YticmekdfdilcpaaOkH
namespace Go.Proofs.Yticmekdfdilcpaa
open Go.RowKit
set_option linter.unusedVariables false
set_option maxHeartbeats 25600000 in
set_option maxRecDepth 100000 in
theorem impl_ValidChoices {base : Nat} {v : Value} {c : Ch} {bs : List Nat} (w : World) (hc : BdH c) (ha : ChE base w v c bs) :
    Calls Try.prog 10 #[v] w (SeenPost (.bool (okH c)) w) := by
  obtain ⟨v0, v1, v2, v3, v4, b0, b1, b2, b3, b4, rfl, h0, h1, h2, h3, h4, _, _⟩ := ha
  have hB0 : Below w.heap.size w (w.alloc (.cells #[.int .i64 c.stack, v0, v1, v2, v3, v4] 33)) := (Below.refl _ _).alloc (Nat.le_refl _) _
  have hbx := Bx.new w 33 #[.int .i64 c.stack, v0, v1, v2, v3, v4]
  have R3 := Lib.hid (impl_numbers (c.accept.length : Int) _ hc.starts ((ints_ok _).later h0 hB0))
  obtain ⟨A0, k0, rfl⟩ := RowE.slice h0
  obtain ⟨A1, k1, rfl⟩ := RowE.slice h1
  obtain ⟨A2, k2, rfl⟩ := ManyE.slice h2
  obtain ⟨A3, k3, rfl⟩ := ManyE.slice h3
  obtain ⟨A4, k4, rfl⟩ := ManyE.slice h4
  have l1 : c.accept.length ≤ 1048576 := hc.accept
  have l2 : c.call.length ≤ 1048576 := hc.call.1
  have l3 : c.ret.length ≤ 1048576 := hc.ret.1
  have l4 : c.inner.length ≤ 1048576 := hc.inner.1
  have Hc := Lib.hid hc
  have H2 := Lib.hid h2
  have H3 := Lib.hid h3
  have H4 := Lib.hid h4
  have hok : okH c = (rngB c.accept.length 1 5 && (rngB c.stack 1 4 && (decide (c.call.length = c.accept.length) && (decide (c.ret.length = c.accept.length) && (decide (c.inner.length = c.accept.length) && (risB c.starts c.accept.length && allH c.accept.length c.stack c.call c.ret c.inner c.accept.length)))))) := by
    rw [okH, hdH]
    generalize rngB c.accept.length 1 5 = x1
    generalize rngB c.stack 1 4 = x2
    generalize decide (c.call.length = c.accept.length) = x3
    generalize decide (c.ret.length = c.accept.length) = x4
    generalize decide (c.inner.length = c.accept.length) = x5
    generalize risB c.starts c.accept.length = x6
    generalize allH c.accept.length c.stack c.call c.ret c.inner c.accept.length = x7
    revert x1 x2 x3 x4 x5 x6 x7
    decide
  rw [hok]
  clear hok hc h0 h1 h2 h3 h4
  obtain ⟨n, hn⟩ : ∃ n, n = c.accept.length := ⟨_, rfl⟩
  obtain ⟨nb, hnb⟩ : ∃ n, n = c.call.length := ⟨_, rfl⟩
  obtain ⟨nr, hnr⟩ : ∃ n, n = c.ret.length := ⟨_, rfl⟩
  obtain ⟨ni, hni⟩ : ∃ n, n = c.inner.length := ⟨_, rfl⟩
  obtain ⟨ns, hns⟩ : ∃ n, n = c.starts.length := ⟨_, rfl⟩
  obtain ⟨S, hS⟩ : ∃ n, n = c.stack := ⟨_, rfl⟩
  have LB := Lib.hid hnb
  have LR := Lib.hid hnr
  have LI := Lib.hid hni
  rw [← hn, ← hnb, ← hnr, ← hni, ← hns, ← hS]
  rw [← hn] at l1
  rw [← hnb] at l2 H2
  rw [← hnr] at l3 H3
  rw [← hni] at l4 H4
  rw [← hn, ← hnb, ← hnr, ← hni, ← hns, ← hS] at hbx hB0 R3
  clear hn hnb hnr hni hns hS
  obtain ⟨rs, hrs⟩ : ∃ r, r = risB c.starts n := ⟨_, rfl⟩
  rw [← hrs] at R3 ⊢
  clear hrs
  obtain ⟨W0, hW0⟩ : ∃ W, W = w.alloc (.cells #[.int .i64 S, .slice A0 ns k0, .slice A1 n k1, .slice A2 nb k2, .slice A3 nr k3, .slice A4 ni k4] 33) := ⟨_, rfl⟩
  rw [← hW0] at hbx hB0 R3
  have HW0 := Lib.hid hW0
  have HB0 := Lib.hid hB0
  have HX := Lib.hid hbx
  clear hW0 hB0
  obtain ⟨y0, y1, y2, y3, y4, y5, yl⟩ := id hbx.all6
  clear hbx
  cases e1 : rngB (n : Int) 1 5 with
  | false =>
    rw [Bool.false_and]
    have q1 : ¬ (1 ≤ (n : Int) ∧ (n : Int) ≤ 5) := by simpa [rngB] using e1
    clear R3 H2 H3 H4 LB LR LI HX e1
    by_cases q2 : n < 1
    · have q3 : (n : Int) < 1 := by omega
      have q4 : decide ((n : Int) < 1) = true := decide_eq_true q3
      clear q1
      go_enter Try.func10, Try.ntmps10
      go_upto_region 1 with fail
      rw [← HW0.out]
      go_wp2
      go_ret
      exact ⟨rfl, HB0.out⟩
    · have q3 : ¬ (n : Int) < 1 := by omega
      have q4 : decide ((n : Int) < 1) = false := decide_eq_false q3
      have q5 : (5 : Int) < n := by omega
      have q6 : 5 < n := by omega
      clear q1
      go_enter Try.func10, Try.ntmps10
      go_upto_region 1 with fail
      rw [← HW0.out]
      go_wp2
      go_ret
      exact ⟨rfl, HB0.out⟩
  | true =>
  have n1 := rngB_yes e1
  rw [Bool.true_and]
  clear e1
  have q1 : ¬ n < 1 := by omega
  have q2 : ¬ 5 < n := by omega
  have q3 : ¬ (n : Int) < 1 := by omega
  have q4 : ¬ (5 : Int) < n := by omega
  cases e2 : rngB S 1 4 with
  | false =>
    rw [Bool.false_and]
    have p1 : ¬ (1 ≤ S ∧ S ≤ 4) := by simpa [rngB] using e2
    clear R3 H2 H3 H4 LB LR LI HX e2
    by_cases p2 : S < 1
    · clear p1
      go_enter Try.func10, Try.ntmps10
      go_upto_region 1 with fail
      rw [← HW0.out]
      go_wp2
      go_ret
      exact ⟨rfl, HB0.out⟩
    · have p3 : (4 : Int) < S := by omega
      clear p1
      go_enter Try.func10, Try.ntmps10
      go_upto_region 1 with fail
      rw [← HW0.out]
      go_wp2
      go_ret
      exact ⟨rfl, HB0.out⟩
  | true =>
  have s1 := rngB_yes e2
  rw [Bool.true_and]
  clear e2
  have p1 : ¬ S < 1 := by omega
  have p2 : ¬ 4 < S := by omega
  by_cases e4 : nb = n
  case neg =>
    rw [decide_eq_false e4, Bool.false_and]
    have e7 : ((nb : Int) != (n : Int)) = true := by simp; omega
    have e8 : (nb != n) = true := by simpa using e4
    have e9 : decide ((nb : Int) = (n : Int)) = false := decide_eq_false (by omega)
    clear R3 H2 H3 H4 LB LR LI HX e4
    go_enter Try.func10, Try.ntmps10
    go_upto_region 1 with fail
    rw [← HW0.out]
    go_wp2
    go_ret
    exact ⟨rfl, HB0.out⟩
  rw [decide_eq_true e4, Bool.true_and]
  rw [e4] at LB HX HW0 l2 H2 y3 ⊢
  clear e4
  by_cases e5 : nr = n
  case neg =>
    rw [decide_eq_false e5, Bool.false_and]
    have e7 : ((nr : Int) != (n : Int)) = true := by simp; omega
    have e8 : (nr != n) = true := by simpa using e5
    have e9 : decide ((nr : Int) = (n : Int)) = false := decide_eq_false (by omega)
    clear R3 H2 H3 H4 LB LR LI HX e5
    go_enter Try.func10, Try.ntmps10
    go_upto_region 1 with fail
    rw [← HW0.out]
    go_wp2
    go_ret
    exact ⟨rfl, HB0.out⟩
  rw [decide_eq_true e5, Bool.true_and]
  rw [e5] at LR HX HW0 l3 H3 y4 ⊢
  clear e5
  by_cases e6 : ni = n
  case neg =>
    rw [decide_eq_false e6, Bool.false_and]
    have e7 : ((ni : Int) != (n : Int)) = true := by simp; omega
    have e8 : (ni != n) = true := by simpa using e6
    have e9 : decide ((ni : Int) = (n : Int)) = false := decide_eq_false (by omega)
    clear R3 H2 H3 H4 LB LR LI HX e6
    go_enter Try.func10, Try.ntmps10
    go_upto_region 1 with fail
    rw [← HW0.out]
    go_wp2
    go_ret
    exact ⟨rfl, HB0.out⟩
  rw [decide_eq_true e6, Bool.true_and]
  rw [e6] at LI HX HW0 l4 H4 y5 ⊢
  clear e6
  clear l2 l3 l4
  cases rs with
  | false =>
    rw [Bool.false_and]
    clear H2 H3 H4 LB LR LI
    go_enter Try.func10, Try.ntmps10
    go_upto_region 1 with fail
    rw [← HW0.out]
    go_wp2_with fail
    refine R3.out.mono ?_
    rintro e w' ⟨rfl, q, rfl⟩
    go_wp2
    go_ret
    exact ⟨rfl, below_drewN HB0.out _⟩
  | true =>
  rw [Bool.true_and]
  go_enter Try.func10, Try.ntmps10
  go_upto_region 1 with fail
  rw [← HW0.out]
  go_wp2_with fail
  refine R3.out.mono ?_
  rintro e W1 ⟨rfl, q, hq⟩
  have hb1 : Below W0.heap.size W0 W1 := by rw [hq]; exact below_drewN (Below.refl _ _) q
  clear hq y0 y1 y2 y3 y4 y5 yl R3 HW0
  go_wp2
  go_loopw [52] (fun i wr => ∃ s : Nat, s ≤ n ∧ i = .int .i64 s ∧ Below W0.heap.size W0 wr ∧ Hid (allH n S c.call c.ret c.inner s = true)) (fun i _ => n - (intOf i).toNat)
  case atStart => exact ⟨0, Nat.zero_le _, rfl, hb1, rfl⟩
  case round =>
    obtain ⟨s, hs, rfl, hB1, hA⟩ := hrel
    clear hb1
    have hbw := HB0.out.trans (hB1.mono HB0.out.size)
    by_cases hlt : s < n
    case neg =>
      have e : s = n := by omega
      have hf := hA.out
      rw [e] at hf
      have hf := Lib.hid hf
      clear hA e
      go_wp2
      go_ret
      exact ⟨by rw [hf.out]; rfl, hbw⟩
    case pos =>
    obtain ⟨cs, hcs⟩ : ∃ x, c.call[s]? = some x := ⟨_, List.getElem?_eq_getElem (by rw [← LB.out]; exact hlt)⟩
    obtain ⟨rs, hrs⟩ : ∃ x, c.ret[s]? = some x := ⟨_, List.getElem?_eq_getElem (by rw [← LR.out]; exact hlt)⟩
    obtain ⟨ns', hns⟩ : ∃ x, c.inner[s]? = some x := ⟨_, List.getElem?_eq_getElem (by rw [← LI.out]; exact hlt)⟩
    have hsuc := allH_succ (n := n) (st := S) hcs hrs hns
    rw [hA.out, Bool.true_and] at hsuc
    have hno := fun h => allH_no (n := n) (st := S) hcs hrs hns hlt h
    obtain ⟨g2, _, _, _, hv2, _⟩ := H2.out.at_ (push2_ok _) hcs
    obtain ⟨g3, _, _, _, hv3, _⟩ := H3.out.at_ (ints3_ok _) hrs
    obtain ⟨g4, _, _, _, hv4, _⟩ := H4.out.at_ (ints2_ok _) hns
    simp only [Value.slice.injEq] at hv2 hv3 hv4
    obtain ⟨rfl, z2, rfl⟩ := hv2
    obtain ⟨rfl, z3, rfl⟩ := hv3
    obtain ⟨rfl, z4, rfl⟩ := hv4
    clear z2 z3 z4
    have QM := impl_moves3 A0 A1 ns k0 n k1 g2 k2 g3 k3 g4 k4 s S c b2 b3 b4 cs rs ns' wr Hc.out ((push3_ok _).later H2.out hbw) ((ints4_ok _).later H3.out hbw) ((ints3_ok _).later H4.out hbw) hlt (by omega) s1 hcs hrs hns
    rw [stP_eq] at QM
    obtain ⟨b, hb⟩ : ∃ b, b = stH n S cs rs ns' := ⟨_, rfl⟩
    rw [← hb] at QM hsuc hno
    have Q := Lib.hid QM
    have HS := Lib.hid hsuc
    have HNO := Lib.hid hno
    obtain ⟨y0, y1, y2, y3, y4, y5, yl⟩ := id (HX.out.later hB1).all6
    have HBW := Lib.hid (And.intro hbw hB1)
    clear QM hb hsuc hno hcs hrs hns hA hbw hB1
    cases b with
    | false =>
      have hf := Lib.hid (HNO.out rfl)
      clear HS HNO
      go_wp2_with fail
      refine Q.out.mono ?_
      rintro e w' ⟨rfl, hb⟩
      go_wp2
      go_ret
      exact ⟨by rw [hf.out]; rfl, HBW.out.1.trans (hb.mono HBW.out.1.size)⟩
    | true =>
      clear HNO
      go_wp2_with fail
      refine Q.out.mono ?_
      rintro e w' ⟨rfl, hb⟩
      go_wp2
      go_roundw
      case rel => exact ⟨s + 1, by omega, by go_num, HBW.out.2.trans (hb.mono HBW.out.2.size), HS⟩
      case measure => simp [intOf]; omega
theorem both_ValidChoices (c : Ch) : ∃ (r0 : Bool),
    (∀ base0 v0 bs0 w, BdH c → ChE base0 w v0 c bs0 → Calls Try.prog 8 #[v0] w (TupPost (.bool r0) w)) ∧
    (∀ base0 v0 bs0 w, BdH c → ChE base0 w v0 c bs0 → Calls Try.prog 10 #[v0] w (TupPost (.bool r0) w)) :=
  ⟨_, fun _ _ _ w hc ha => spec_ValidChoices w hc ha, fun _ _ _ w hc ha => impl_ValidChoices w hc ha⟩
end Go.Proofs.Yticmekdfdilcpaa
