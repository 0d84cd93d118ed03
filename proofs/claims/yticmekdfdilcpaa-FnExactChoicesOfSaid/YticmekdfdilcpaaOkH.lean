/- l03Ok of the model: whether choices are right. -/
import Derived.Test.YticmekdfdilcpaaOkHM
import Derived.Test.YticmekdfdilcpaaPushS
import Derived.Test.YticmekdfdilcpaaFree
import Derived.Test.YticmekdfdilcpaaGrown
import Derived.StillTailTactics
namespace Go.Proofs.Yticmekdfdilcpaa
open Go.RowKit
set_option linter.unusedVariables false
theorem lenC {a b : Nat} : decide ((a : Int) = (b : Int)) = decide (a = b) := by
  by_cases h : a = b
  · subst h; simp
  · have : ¬ (a : Int) = (b : Int) := by omega
    simp [h, this]
theorem kH_p {n st : Int} {p : List (Int × Int)} {q : List Int} {r : List (List Int)} (h : risP p n st = false) : kH n st p q r = false := by rw [kH, h]; rfl
theorem kH_q {n st : Int} {p : List (Int × Int)} {q : List Int} {r : List (List Int)} (h : risB q n = false) : kH n st p q r = false := by rw [kH, h]; simp
theorem kH_l {n st : Int} {p : List (Int × Int)} {q : List Int} {r : List (List Int)} (h : ¬ (r.length : Int) = st + 1) : kH n st p q r = false := by rw [kH]; simp [h]
theorem kH_r {n st : Int} {p : List (Int × Int)} {q : List Int} {r : List (List Int)} (h1 : risP p n st = true) (h2 : risB q n = true) (h3 : (r.length : Int) = st + 1) : kH n st p q r = r.all fun x => risB x n := by rw [kH, h1, h2]; simp [h3]
set_option maxHeartbeats 51200000 in
set_option maxRecDepth 100000 in
theorem spec_l03Ok {base B : Nat} {v0 v1 v2 v3 v4 : Value} {c : Ch} {b0 b1 b2 b3 b4 : List Nat} (w : World) (hc : BdH c) (hb : Bx w B 33 #[.int .i64 c.stack, v0, v1, v2, v3, v4])
    (h0 : IntsE base w v0 c.starts b0) (h1 : BoolsE base w v1 c.accept b1) (h2 : Push3E base w v2 c.call b2) (h3 : Ints4E base w v3 c.ret b3) (h4 : Ints3E base w v4 c.inner b4) :
    Calls Try.prog 32 #[.pointer (some ⟨B, 0, none⟩)] w (SeenPost (.bool (okH c)) w) := by
  have R1 := Lib.hid (fun W => spec_rng (x := (c.accept.length : Int)) (a := 1) (b := 5) W)
  have R2 := Lib.hid (fun W => spec_rng (x := c.stack) (a := 1) (b := 4) W)
  have R3 := Lib.hid (spec_rises (c.accept.length : Int) w hc.starts h0)
  have HR := Lib.hid (fun (W : World) (hW : Below w.heap.size w W) => And.intro ((push3_ok _).later h2 hW) (And.intro ((ints4_ok _).later h3 hW) ((ints3_ok _).later h4 hW)))
  obtain ⟨A0, k0, rfl⟩ := RowE.slice h0
  obtain ⟨A1, k1, rfl⟩ := RowE.slice h1
  obtain ⟨A2, k2, rfl⟩ := ManyE.slice h2
  obtain ⟨A3, k3, rfl⟩ := ManyE.slice h3
  obtain ⟨A4, k4, rfl⟩ := ManyE.slice h4
  have l1 : c.accept.length ≤ 1048576 := hc.accept
  have l2 : c.call.length ≤ 1048576 := hc.call.1
  have l3 : c.ret.length ≤ 1048576 := hc.ret.1
  have l4 : c.inner.length ≤ 1048576 := hc.inner.1
  have Hc := Lib.hid hc
  have HX := Lib.hid hb
  have H2 := Lib.hid h2
  have H3 := Lib.hid h3
  have H4 := Lib.hid h4
  have hok : okH c = (rngB c.accept.length 1 5 && (rngB c.stack 1 4 && (risB c.starts c.accept.length && (decide (c.call.length = c.accept.length) && (decide (c.ret.length = c.accept.length) && (decide (c.inner.length = c.accept.length) && allH c.accept.length c.stack c.call c.ret c.inner c.accept.length)))))) := by
    rw [okH, hdH]
    simp only [Bool.and_assoc]
  rw [hok]
  clear hok hc h0 h1 h2 h3 h4
  obtain ⟨n, hn⟩ : ∃ n, n = c.accept.length := ⟨_, rfl⟩
  obtain ⟨nb, hnb⟩ : ∃ n, n = c.call.length := ⟨_, rfl⟩
  obtain ⟨nr, hnr⟩ : ∃ n, n = c.ret.length := ⟨_, rfl⟩
  obtain ⟨ni, hni⟩ : ∃ n, n = c.inner.length := ⟨_, rfl⟩
  obtain ⟨ns, hns⟩ : ∃ n, n = c.starts.length := ⟨_, rfl⟩
  obtain ⟨S, hS⟩ : ∃ n, n = c.stack := ⟨_, rfl⟩
  have LB := Lib.hid hnb
  have LR := Lib.hid hnr
  have LI := Lib.hid hni
  rw [← hn, ← hnb, ← hnr, ← hni, ← hS]
  rw [← hn, ← hns] at R3
  rw [← hn] at R1 l1
  rw [← hnb] at l2 H2 HR
  rw [← hnr] at l3 H3 HR
  rw [← hni] at l4 H4 HR
  rw [← hn, ← hnb, ← hnr, ← hni, ← hns, ← hS] at HX hb
  rw [← hS] at R2
  clear hn hnb hnr hni hns hS
  obtain ⟨y0, y1, y2, y3, y4, y5, yl⟩ := id hb.all6
  clear hb
  cases e1 : rngB (n : Int) 1 5 with
  | false =>
    rw [e1] at R1
    rw [Bool.false_and]
    clear HR R2 R3 H2 H3 H4 LB LR LI e1
    go_enter Try.func32, Try.ntmps32
    go_wp2_with fail
    refine (R1.out _).mono ?_
    rintro e w' ⟨rfl, rfl⟩
    go_wp2
    go_ret
    exact ⟨rfl, Below.refl _ _⟩
  | true =>
  have n1 := rngB_yes e1
  rw [e1] at R1
  rw [Bool.true_and]
  clear e1
  cases e2 : rngB S 1 4 with
  | false =>
    rw [e2] at R2
    rw [Bool.false_and]
    clear HR R3 H2 H3 H4 LB LR LI e2
    go_enter Try.func32, Try.ntmps32
    go_wp2_with fail
    refine (R1.out _).mono ?_
    rintro e w' ⟨rfl, rfl⟩
    go_wp2_with fail
    refine (R2.out _).mono ?_
    rintro e w' ⟨rfl, rfl⟩
    go_wp2
    go_ret
    exact ⟨rfl, Below.refl _ _⟩
  | true =>
  have s1 := rngB_yes e2
  rw [e2] at R2
  rw [Bool.true_and]
  clear e2
  have ewn : IntKind.i64.wrap ((n : Int) - 1) = (n : Int) - 1 := IntWalk.i64_in _ (by omega)
  have ews : IntKind.i64.wrap (S + 1) = S + 1 := IntWalk.i64_in _ (by omega)
  cases e3 : risB c.starts (n : Int) with
  | false =>
    rw [e3] at R3
    rw [Bool.false_and]
    clear HR H2 H3 H4 LB LR LI e3
    go_enter Try.func32, Try.ntmps32
    go_wp2_with fail
    refine (R1.out _).mono ?_
    rintro e w' ⟨rfl, rfl⟩
    go_wp2_with fail
    refine (R2.out _).mono ?_
    rintro e w' ⟨rfl, rfl⟩
    go_wp2_with fail
    refine R3.out.mono ?_
    rintro e W0 ⟨rfl, q0, hq0⟩
    have hB0 : Below w.heap.size w W0 := by rw [hq0]; exact below_drewN (Below.refl _ _) q0
    clear hq0 y0 y1 y2 y3 y4 y5 yl
    obtain ⟨y0, y1, y2, y3, y4, y5, yl⟩ := id (HX.out.later hB0).all6
    go_wp2
    go_ret
    exact ⟨rfl, hB0⟩
  | true =>
  rw [e3] at R3
  rw [Bool.true_and]
  clear e3
  by_cases e4 : nb = n
  case neg =>
    rw [decide_eq_false e4, Bool.false_and]
    have e7 : ((nb : Int) != (n : Int)) = true := by simp; omega
    have e8 : (nb != n) = true := by simpa using e4
    have e9 : decide ((nb : Int) = (n : Int)) = false := decide_eq_false (by omega)
    clear HR H2 H3 H4 LB LR LI e4
    go_enter Try.func32, Try.ntmps32
    go_wp2_with fail
    refine (R1.out _).mono ?_
    rintro e w' ⟨rfl, rfl⟩
    go_wp2_with fail
    refine (R2.out _).mono ?_
    rintro e w' ⟨rfl, rfl⟩
    go_wp2_with fail
    refine R3.out.mono ?_
    rintro e W0 ⟨rfl, q0, hq0⟩
    have hB0 : Below w.heap.size w W0 := by rw [hq0]; exact below_drewN (Below.refl _ _) q0
    clear hq0 y0 y1 y2 y3 y4 y5 yl
    obtain ⟨y0, y1, y2, y3, y4, y5, yl⟩ := id (HX.out.later hB0).all6
    go_wp2
    go_ret
    exact ⟨rfl, hB0⟩
  rw [decide_eq_true e4, Bool.true_and]
  rw [e4] at LB HX HR l2 H2 y3
  clear e4
  by_cases e5 : nr = n
  case neg =>
    rw [decide_eq_false e5, Bool.false_and]
    have e7 : ((nr : Int) != (n : Int)) = true := by simp; omega
    have e8 : (nr != n) = true := by simpa using e5
    have e9 : decide ((nr : Int) = (n : Int)) = false := decide_eq_false (by omega)
    clear HR H2 H3 H4 LB LR LI e5
    go_enter Try.func32, Try.ntmps32
    go_wp2_with fail
    refine (R1.out _).mono ?_
    rintro e w' ⟨rfl, rfl⟩
    go_wp2_with fail
    refine (R2.out _).mono ?_
    rintro e w' ⟨rfl, rfl⟩
    go_wp2_with fail
    refine R3.out.mono ?_
    rintro e W0 ⟨rfl, q0, hq0⟩
    have hB0 : Below w.heap.size w W0 := by rw [hq0]; exact below_drewN (Below.refl _ _) q0
    clear hq0 y0 y1 y2 y3 y4 y5 yl
    obtain ⟨y0, y1, y2, y3, y4, y5, yl⟩ := id (HX.out.later hB0).all6
    go_wp2
    go_ret
    exact ⟨rfl, hB0⟩
  rw [decide_eq_true e5, Bool.true_and]
  rw [e5] at LR HX HR l3 H3 y4
  clear e5
  by_cases e6 : ni = n
  case neg =>
    rw [decide_eq_false e6, Bool.false_and]
    have e7 : ((ni : Int) != (n : Int)) = true := by simp; omega
    have e8 : (ni != n) = true := by simpa using e6
    have e9 : decide ((ni : Int) = (n : Int)) = false := decide_eq_false (by omega)
    clear HR H2 H3 H4 LB LR LI e6
    go_enter Try.func32, Try.ntmps32
    go_wp2_with fail
    refine (R1.out _).mono ?_
    rintro e w' ⟨rfl, rfl⟩
    go_wp2_with fail
    refine (R2.out _).mono ?_
    rintro e w' ⟨rfl, rfl⟩
    go_wp2_with fail
    refine R3.out.mono ?_
    rintro e W0 ⟨rfl, q0, hq0⟩
    have hB0 : Below w.heap.size w W0 := by rw [hq0]; exact below_drewN (Below.refl _ _) q0
    clear hq0 y0 y1 y2 y3 y4 y5 yl
    obtain ⟨y0, y1, y2, y3, y4, y5, yl⟩ := id (HX.out.later hB0).all6
    go_wp2
    go_ret
    exact ⟨rfl, hB0⟩
  rw [decide_eq_true e6, Bool.true_and]
  rw [e6] at LI HX HR l4 H4 y5
  clear e6
  clear l2 l3 l4
  go_enter Try.func32, Try.ntmps32
  go_wp2_with fail
  refine (R1.out _).mono ?_
  rintro e w' ⟨rfl, rfl⟩
  go_wp2_with fail
  refine (R2.out _).mono ?_
  rintro e w' ⟨rfl, rfl⟩
  go_wp2_with fail
  refine R3.out.mono ?_
  rintro e W0 ⟨rfl, q0, hq0⟩
  have hB0 : Below w.heap.size w W0 := by rw [hq0]; exact below_drewN (Below.refl _ _) q0
  clear hq0 y0 y1 y2 y3 y4 y5 yl
  obtain ⟨y0, y1, y2, y3, y4, y5, yl⟩ := id (HX.out.later hB0).all6
  clear R1 R2 R3
  go_wp2
  clear y0 y1 y2 y3 y4 y5 yl
  go_loopw [4] (fun i wr => ∃ s : Nat, s ≤ n ∧ i = .int .i64 s ∧ Below w.heap.size w wr ∧ Hid (allH n S c.call c.ret c.inner s = true)) (fun i _ => n - (intOf i).toNat)
  case atStart => exact ⟨0, Nat.zero_le _, rfl, hB0, rfl⟩
  case round =>
    obtain ⟨s, hs, rfl, hB1, hA⟩ := hrel
    clear hB0
    by_cases hlt : s < n
    case neg =>
      have e : s = n := by omega
      subst e
      obtain ⟨y0, y1, y2, y3, y4, y5, yl⟩ := id (HX.out.later hB1).all6
      go_wp2
      go_ret
      exact ⟨by rw [hA.out]; rfl, hB1⟩
    case pos =>
    obtain ⟨cs, hcs⟩ : ∃ x, c.call[s]? = some x := ⟨_, List.getElem?_eq_getElem (by rw [← LB.out]; exact hlt)⟩
    obtain ⟨rs, hrs⟩ : ∃ x, c.ret[s]? = some x := ⟨_, List.getElem?_eq_getElem (by rw [← LR.out]; exact hlt)⟩
    obtain ⟨ns', hns⟩ : ∃ x, c.inner[s]? = some x := ⟨_, List.getElem?_eq_getElem (by rw [← LI.out]; exact hlt)⟩
    have hsuc := allH_succ (n := n) (st := S) hcs hrs hns
    rw [hA.out, Bool.true_and] at hsuc
    have hno := fun h => allH_no (n := n) (st := S) hcs hrs hns hlt h
    obtain ⟨g2, _, u2, d2, hv2, hc2, hE2, hg2, _⟩ := H2.out.at_ (push2_ok _) hcs
    obtain ⟨g3, _, u3, d3, hv3, hc3, hE3, hg3, _⟩ := H3.out.at_ (ints3_ok _) hrs
    obtain ⟨g4, _, u4, d4, hv4, hc4, hE4, hg4, _⟩ := H4.out.at_ (ints2_ok _) hns
    simp only [Value.slice.injEq] at hv2 hv3 hv4
    obtain ⟨rfl, z2, rfl⟩ := hv2
    obtain ⟨rfl, z3, rfl⟩ := hv3
    obtain ⟨rfl, z4, rfl⟩ := hv4
    clear z2 z3 z4
    have bcs := Hc.out.call.2 cs (List.mem_of_getElem? hcs)
    have brs := Hc.out.ret.2 rs (List.mem_of_getElem? hrs)
    have bns := Hc.out.inner.2 ns' (List.mem_of_getElem? hns)
    have E2 := Lib.hid hE2
    have E3 := Lib.hid hE3
    have E4 := Lib.hid hE4
    obtain ⟨A5, k5, rfl⟩ := ManyE.slice hE2
    obtain ⟨A6, k6, rfl⟩ := ManyE.slice hE3
    obtain ⟨A7, k7, rfl⟩ := ManyE.slice hE4
    have L2 := Lib.hid (show cs.length ≤ 1048576 from bcs.1)
    have Bcs := Lib.hid bcs
    have Brs := Lib.hid brs
    have Bns := Lib.hid bns
    have t2 : cs.length ≤ 1048576 := bcs.1
    have t3 : rs.length ≤ 1048576 := brs.1
    have t4 : ns'.length ≤ 1048576 := bns.1
    obtain ⟨lc, hlc⟩ : ∃ x, x = cs.length := ⟨_, rfl⟩
    obtain ⟨lr, hlr⟩ : ∃ x, x = rs.length := ⟨_, rfl⟩
    obtain ⟨li, hli⟩ : ∃ x, x = ns'.length := ⟨_, rfl⟩
    have hst : stH n S cs rs ns' = (decide (lc = 2) && (decide (lr = 2) && (decide (li = 2) && twoH n S cs rs ns' 2))) := by rw [hlc, hlr, hli]; rfl
    rw [← hlc] at t2 E2 hc2
    rw [← hlr] at t3 E3 hc3
    rw [← hli] at t4 E4 hc4
    have KC := Lib.hid hlc
    have KR := Lib.hid hlr
    have KI := Lib.hid hli
    rw [hst] at hsuc hno
    have HS := Lib.hid hsuc
    have HNO := Lib.hid hno
    have c2 := cellL hc2 hB1
    have c3 := cellL hc3 hB1
    have c4 := cellL hc4 hB1
    have C2 := Lib.hid hc2
    have C3 := Lib.hid hc3
    have C4 := Lib.hid hc4
    obtain ⟨y0, y1, y2, y3, y4, y5, yl⟩ := id (HX.out.later hB1).all6
    clear hlc hlr hli hst hsuc hno hcs hrs hns hE2 hE3 hE4 bcs brs bns hc2 hc3 hc4 hA L2
    by_cases f1 : lc = 2
    case neg =>
      have hf := Lib.hid (HNO.out (by simp [f1]))
      have e7 : ((lc : Int) != 2) = true := by simp; omega
      have e8 : (lc != 2) = true := by simpa using f1
      have e9 : decide ((lc : Int) = 2) = false := decide_eq_false (by omega)
      clear HNO HS KC KR KI E2 E3 E4 C2 C3 C4 Bcs Brs Bns f1
      go_wp2
      go_ret
      exact ⟨by rw [hf.out]; rfl, hB1⟩
    rw [f1] at KC E2 C2 c2
    by_cases f2 : lr = 2
    case neg =>
      have hf := Lib.hid (HNO.out (by simp [f2]))
      have e7 : ((lr : Int) != 2) = true := by simp; omega
      have e8 : (lr != 2) = true := by simpa using f2
      have e9 : decide ((lr : Int) = 2) = false := decide_eq_false (by omega)
      clear HNO HS KC KR KI E2 E3 E4 C2 C3 C4 Bcs Brs Bns f2
      go_wp2
      go_ret
      exact ⟨by rw [hf.out]; rfl, hB1⟩
    rw [f2] at KR E3 C3 c3
    by_cases f3 : li = 2
    case neg =>
      have hf := Lib.hid (HNO.out (by simp [f3]))
      have e7 : ((li : Int) != 2) = true := by simp; omega
      have e8 : (li != 2) = true := by simpa using f3
      have e9 : decide ((li : Int) = 2) = false := decide_eq_false (by omega)
      clear HNO HS KC KR KI E2 E3 E4 C2 C3 C4 Bcs Brs Bns f3
      go_wp2
      go_ret
      exact ⟨by rw [hf.out]; rfl, hB1⟩
    rw [f3] at KI E4 C4 c4
    have hall2 : ∀ b : Bool, (decide (lc = 2) && (decide (lr = 2) && (decide (li = 2) && b))) = b := fun b => by simp [f1, f2, f3]
    rw [hall2] at HS HNO
    clear hall2 f1 f2 f3
    clear t2 t3 t4
    go_wp2
    clear c2 c3 c4 y0 y1 y2 y3 y4 y5 yl
    generalize wr = wo at *
    go_loopw [5] (fun i wr => ∃ k : Nat, k ≤ 2 ∧ i = .int .i64 k ∧ Below w.heap.size w wr ∧ Hid (twoH n S cs rs ns' k = true)) (fun i _ => 2 - (intOf i).toNat)
    case atStart => exact ⟨0, by omega, rfl, hB1, rfl⟩
    case round =>
      obtain ⟨k, hk, rfl, hB2, hT⟩ := hrel
      clear hB1
      by_cases hk2 : k < 2
      case neg =>
        have e : k = 2 := by omega
        subst e
        have hnx : Hid (allH n S c.call c.ret c.inner (s + 1) = true) := by show _ = _; rw [HS.out]; exact hT.out
        clear hT HS HNO
        go_wp2
        go_roundw
        case rel => exact ⟨s + 1, by omega, by go_num, hB2, hnx⟩
        case measure => simp [intOf]; omega
      case pos =>
      obtain ⟨p, hp⟩ : ∃ x, cs[k]? = some x := ⟨_, List.getElem?_eq_getElem (by rw [← KC.out]; exact hk2)⟩
      obtain ⟨r, hr⟩ : ∃ x, rs[k]? = some x := ⟨_, List.getElem?_eq_getElem (by rw [← KR.out]; exact hk2)⟩
      obtain ⟨q, hq⟩ : ∃ x, ns'[k]? = some x := ⟨_, List.getElem?_eq_getElem (by rw [← KI.out]; exact hk2)⟩
      have hsuc2 := twoH_succ (n := n) (st := S) hp hq hr
      rw [hT.out, Bool.true_and] at hsuc2
      have hno2 : kH n S p q r = false → allH n S c.call c.ret c.inner n = false := fun h => HNO.out (twoH_no hp hq hr hk2 h)
      obtain ⟨g5, _, u5, d5, hv5, hc5, hE5, hg5, _⟩ := E2.out.at_ (push_ok _) hp
      obtain ⟨g6, _, u6, d6, hv6, hc6, hE6, hg6, _⟩ := E3.out.at_ (ints2_ok _) hr
      obtain ⟨g7, _, u7, d7, hv7, hc7, hE7, hg7, _⟩ := E4.out.at_ (ints_ok _) hq
      simp only [Value.slice.injEq] at hv5 hv6 hv7
      obtain ⟨rfl, z5, rfl⟩ := hv5
      obtain ⟨rfl, z6, rfl⟩ := hv6
      obtain ⟨rfl, z7, rfl⟩ := hv7
      clear z5 z6 z7
      have bp := Bcs.out.2 p (List.mem_of_getElem? hp)
      have br := Brs.out.2 r (List.mem_of_getElem? hr)
      have bq := Bns.out.2 q (List.mem_of_getElem? hq)
      have QP := Lib.hid (fun (W : World) (hW : Below w.heap.size w W) => spec_pushesR (n : Int) S W ⟨by omega, by omega⟩ ⟨by omega, by omega⟩ bp ((push_ok _).later hE5 hW))
      have QQ := Lib.hid (fun (W : World) (hW : Below w.heap.size w W) => spec_rises (n : Int) W bq ((ints_ok _).later hE7 hW))
      have E6 := Lib.hid hE6
      obtain ⟨A8, k8, rfl⟩ := RowE.slice hE5
      obtain ⟨A9, k9, rfl⟩ := ManyE.slice hE6
      obtain ⟨A10, k10, rfl⟩ := RowE.slice hE7
      have tr : r.length ≤ 1048576 := br.1
      have Br := Lib.hid br
      obtain ⟨lp, hlp⟩ : ∃ x, x = p.length := ⟨_, rfl⟩
      obtain ⟨lq, hlq⟩ : ∃ x, x = q.length := ⟨_, rfl⟩
      obtain ⟨ll, hll⟩ : ∃ x, x = r.length := ⟨_, rfl⟩
      have HP := Lib.hid (@kH_p n S p q r)
      have HQ := Lib.hid (@kH_q n S p q r)
      have HL := Lib.hid (@kH_l n S p q r)
      have HRR := Lib.hid (@kH_r n S p q r)
      rw [← hlp] at hc5 QP
      rw [← hlq] at hc7 QQ
      rw [← hll] at hc6 E6 tr HL HRR
      have KL := Lib.hid hll
      have HS2 := Lib.hid hsuc2
      have HNO2 := Lib.hid hno2
      have C5 := Lib.hid hc5
      have C6 := Lib.hid hc6
      have C7 := Lib.hid hc7
      have HB2 := Lib.hid hB2
      have X2 := Lib.hid (HX.out.later hB2)
      have D2 := Lib.hid (And.intro (cellL C2.out hB2) (And.intro (cellL C3.out hB2) (cellL C4.out hB2)))
      have D5 := Lib.hid (And.intro (cellL hc5 hB2) (And.intro (cellL hc6 hB2) (cellL hc7 hB2)))
      clear hlp hlq hll hsuc2 hno2 hp hq hr hE5 hE6 hE7 bp br bq hc5 hc6 hc7 hT hB2
      have hdk : decide ((k : Int) < 2) = true := decide_eq_true (by omega)
      have hk3 : (k : Int) < 2 := by omega
      go_wp2_with fail
      go_upto_region 12 with fail
      cases kp : risP p n S with
      | false =>
        have hf := Lib.hid (HNO2.out (HP.out kp))
        rw [kp] at QP
        clear kp HP HQ HL HRR HS2 HNO2
        refine wp_region_free (by kernel_rfl) [
            .val [] (fun _ => .pointer (some ⟨B, 0, none⟩)),
            .val [] (fun _ => .pointer (some ⟨B, 0, none⟩)),
            .val [] (fun _ => .pointer (some ⟨B, 3, none⟩)),
            .val [] (fun _ => .slice (some ⟨g2, 0, none⟩) n k2),
            .val [] (fun _ => .int .i64 s),
            .val [] (fun _ => .pointer (some ⟨g2, s, none⟩)),
            .val [] (fun _ => .slice (some ⟨g5, 0, none⟩) 2 k5),
            .val [] (fun _ => .int .i64 k),
            .val [] (fun _ => .pointer (some ⟨g5, k, none⟩)),
            .val [] (fun _ => .slice A8 lp k8),
            .val [] (fun _ => .int .i64 n),
            .val [] (fun _ => .pointer (some ⟨B, 0, none⟩)),
            .val [] (fun _ => .pointer (some ⟨B, 0, none⟩)),
            .val [] (fun _ => .pointer (some ⟨B, 0, none⟩)),
            .val [] (fun _ => .int .i64 S),
            .val [] (fun _ => .bool false),
            .val [] (fun _ => .bool true),
            .val [] (fun _ => .bool true),
            .val [] (fun _ => undef),
            .val [] (fun _ => undef),
            .val [] (fun _ => undef),
            .val [] (fun _ => undef),
            .val [] (fun _ => undef),
            .val [] (fun _ => undef),
            .val [] (fun _ => undef),
            .val [] (fun _ => undef),
            .val [] (fun _ => undef),
            .val [] (fun _ => undef),
            .val [] (fun _ => undef),
            .val [] (fun _ => undef),
            .val [] (fun _ => undef),
            .val [] (fun _ => undef),
            .val [] (fun _ => .bool true),
            .val [] (fun _ => .bool true),
            .val [] (fun _ => undef),
            .val [] (fun _ => undef),
            .val [] (fun _ => undef),
            .val [] (fun _ => undef),
            .val [] (fun _ => undef),
            .val [] (fun _ => undef),
            .val [] (fun _ => undef),
            .val [] (fun _ => undef),
            .val [] (fun _ => undef),
            .val [] (fun _ => undef),
            .val [] (fun _ => undef),
            .val [] (fun _ => undef),
            .val [] (fun _ => undef),
            .val [] (fun _ => undef),
            .val [] (fun _ => undef),
            .val [] (fun _ => undef),
            .val [] (fun _ => undef),
            .val [] (fun _ => .bool true)] ?hp ?hfw ?deps ?oks ?steps ?tailR
        case hp => kernel_rfl
        case hfw => kernel_rfl
        case deps => kernel_rfl
        case oks =>
          intro F hF
          simp only [List.mem_cons, List.not_mem_nil, or_false] at hF
          rcases hF with rfl | rfl | rfl | rfl | rfl | rfl | rfl | rfl | rfl | rfl | rfl | rfl | rfl | rfl | rfl | rfl | rfl | rfl | rfl | rfl | rfl | rfl | rfl | rfl | rfl | rfl | rfl | rfl | rfl | rfl | rfl | rfl | rfl | rfl | rfl | rfl | rfl | rfl | rfl | rfl | rfl | rfl | rfl | rfl | rfl | rfl | rfl | rfl | rfl | rfl | rfl | rfl
          · trivial
          · trivial
          · trivial
          · trivial
          · trivial
          · trivial
          · trivial
          · trivial
          · trivial
          · trivial
          · trivial
          · trivial
          · trivial
          · trivial
          · trivial
          · trivial
          · trivial
          · trivial
          · trivial
          · trivial
          · trivial
          · trivial
          · trivial
          · trivial
          · trivial
          · trivial
          · trivial
          · trivial
          · trivial
          · trivial
          · trivial
          · trivial
          · trivial
          · trivial
          · trivial
          · trivial
          · trivial
          · trivial
          · trivial
          · trivial
          · trivial
          · trivial
          · trivial
          · trivial
          · trivial
          · trivial
          · trivial
          · trivial
          · trivial
          · trivial
          · trivial
          · trivial
        case steps =>
          refine Steps.cons ?_ ?_
          · refine FreeStep.val [] _ rfl rfl fun u β W hW hn fr hfr K hK => ?_
            simp only [frameL, putL, Act.put, List.setIfInBounds_toArray, List.set_cons_zero, List.set_cons_succ, Nat.zero_add, Nat.reduceAdd] at hfr
            subst hfr
            have HK := Lib.hid hK
            clear hK hn
            go_simp
            have h9 := HK.out
            revert h9
            clear HK
            go_simp
            try exact id
          refine Steps.cons ?_ ?_
          · refine FreeStep.val [] _ rfl rfl fun u β W hW hn fr hfr K hK => ?_
            simp only [frameL, putL, Act.put, List.setIfInBounds_toArray, List.set_cons_zero, List.set_cons_succ, Nat.zero_add, Nat.reduceAdd] at hfr
            subst hfr
            have e0 : u 0 = .pointer (some ⟨B, 0, none⟩) := Have.get (k := 0) hn rfl
            simp only [e0] at hK
            have HK := Lib.hid hK
            clear hK hn
            go_simp
            have h9 := HK.out
            revert h9
            clear HK
            go_simp
            try exact id
          refine Steps.cons ?_ ?_
          · refine FreeStep.val [] _ rfl rfl fun u β W hW hn fr hfr K hK => ?_
            simp only [frameL, putL, Act.put, List.setIfInBounds_toArray, List.set_cons_zero, List.set_cons_succ, Nat.zero_add, Nat.reduceAdd] at hfr
            subst hfr
            have e1 : u 1 = .pointer (some ⟨B, 0, none⟩) := Have.get (k := 1) hn rfl
            simp only [e1] at hK
            have HK := Lib.hid hK
            clear hK hn
            go_simp
            have h9 := HK.out
            revert h9
            clear HK
            go_simp
            try exact id
          refine Steps.cons ?_ ?_
          · refine FreeStep.val [] _ rfl rfl fun u β W hW hn fr hfr K hK => ?_
            simp only [frameL, putL, Act.put, List.setIfInBounds_toArray, List.set_cons_zero, List.set_cons_succ, Nat.zero_add, Nat.reduceAdd] at hfr
            subst hfr
            have e2 : u 2 = .pointer (some ⟨B, 3, none⟩) := Have.get (k := 2) hn rfl
            simp only [e2] at hK
            obtain ⟨y0, y1, y2, y3, y4, y5, yl⟩ := id (X2.out.later hW).all6
            have HK := Lib.hid hK
            clear hK hn
            go_simp
            have h9 := HK.out
            revert h9
            clear HK
            go_simp
            try exact id
          refine Steps.cons ?_ ?_
          · refine FreeStep.val [] _ rfl rfl fun u β W hW hn fr hfr K hK => ?_
            simp only [frameL, putL, Act.put, List.setIfInBounds_toArray, List.set_cons_zero, List.set_cons_succ, Nat.zero_add, Nat.reduceAdd] at hfr
            subst hfr
            have HK := Lib.hid hK
            clear hK hn
            go_simp
            have h9 := HK.out
            revert h9
            clear HK
            go_simp
            try exact id
          refine Steps.cons ?_ ?_
          · refine FreeStep.val [] _ rfl rfl fun u β W hW hn fr hfr K hK => ?_
            simp only [frameL, putL, Act.put, List.setIfInBounds_toArray, List.set_cons_zero, List.set_cons_succ, Nat.zero_add, Nat.reduceAdd] at hfr
            subst hfr
            have e3 : u 3 = .slice (some ⟨g2, 0, none⟩) n k2 := Have.get (k := 3) hn rfl
            have e4 : u 4 = .int .i64 s := Have.get (k := 4) hn rfl
            simp only [e3, e4] at hK
            have HK := Lib.hid hK
            clear hK hn
            go_simp
            have h9 := HK.out
            revert h9
            clear HK
            go_simp
            try exact id
          refine Steps.cons ?_ ?_
          · refine FreeStep.val [] _ rfl rfl fun u β W hW hn fr hfr K hK => ?_
            simp only [frameL, putL, Act.put, List.setIfInBounds_toArray, List.set_cons_zero, List.set_cons_succ, Nat.zero_add, Nat.reduceAdd] at hfr
            subst hfr
            have e5 : u 5 = .pointer (some ⟨g2, s, none⟩) := Have.get (k := 5) hn rfl
            simp only [e5] at hK
            have c0 := cellL D2.out.1 hW
            have HK := Lib.hid hK
            clear hK hn
            go_simp
            have h9 := HK.out
            revert h9
            clear HK
            go_simp
            try exact id
          refine Steps.cons ?_ ?_
          · refine FreeStep.val [] _ rfl rfl fun u β W hW hn fr hfr K hK => ?_
            simp only [frameL, putL, Act.put, List.setIfInBounds_toArray, List.set_cons_zero, List.set_cons_succ, Nat.zero_add, Nat.reduceAdd] at hfr
            subst hfr
            have HK := Lib.hid hK
            clear hK hn
            go_simp
            have h9 := HK.out
            revert h9
            clear HK
            go_simp
            try exact id
          refine Steps.cons ?_ ?_
          · refine FreeStep.val [] _ rfl rfl fun u β W hW hn fr hfr K hK => ?_
            simp only [frameL, putL, Act.put, List.setIfInBounds_toArray, List.set_cons_zero, List.set_cons_succ, Nat.zero_add, Nat.reduceAdd] at hfr
            subst hfr
            have e6 : u 6 = .slice (some ⟨g5, 0, none⟩) 2 k5 := Have.get (k := 6) hn rfl
            have e7 : u 7 = .int .i64 k := Have.get (k := 7) hn rfl
            simp only [e6, e7] at hK
            have HK := Lib.hid hK
            clear hK hn
            go_simp
            have h9 := HK.out
            revert h9
            clear HK
            go_simp
            try exact id
          refine Steps.cons ?_ ?_
          · refine FreeStep.val [] _ rfl rfl fun u β W hW hn fr hfr K hK => ?_
            simp only [frameL, putL, Act.put, List.setIfInBounds_toArray, List.set_cons_zero, List.set_cons_succ, Nat.zero_add, Nat.reduceAdd] at hfr
            subst hfr
            have e8 : u 8 = .pointer (some ⟨g5, k, none⟩) := Have.get (k := 8) hn rfl
            simp only [e8] at hK
            have c0 := cellL D5.out.1 hW
            have HK := Lib.hid hK
            clear hK hn
            go_simp
            have h9 := HK.out
            revert h9
            clear HK
            go_simp
            try exact id
          refine Steps.cons ?_ ?_
          · refine FreeStep.val [] _ rfl rfl fun u β W hW hn fr hfr K hK => ?_
            simp only [frameL, putL, Act.put, List.setIfInBounds_toArray, List.set_cons_zero, List.set_cons_succ, Nat.zero_add, Nat.reduceAdd] at hfr
            subst hfr
            have HK := Lib.hid hK
            clear hK hn
            go_simp
            have h9 := HK.out
            revert h9
            clear HK
            go_simp
            try exact id
          refine Steps.cons ?_ ?_
          · refine FreeStep.val [] _ rfl rfl fun u β W hW hn fr hfr K hK => ?_
            simp only [frameL, putL, Act.put, List.setIfInBounds_toArray, List.set_cons_zero, List.set_cons_succ, Nat.zero_add, Nat.reduceAdd] at hfr
            subst hfr
            have HK := Lib.hid hK
            clear hK hn
            go_simp
            have h9 := HK.out
            revert h9
            clear HK
            go_simp
            try exact id
          refine Steps.cons ?_ ?_
          · refine FreeStep.val [] _ rfl rfl fun u β W hW hn fr hfr K hK => ?_
            simp only [frameL, putL, Act.put, List.setIfInBounds_toArray, List.set_cons_zero, List.set_cons_succ, Nat.zero_add, Nat.reduceAdd] at hfr
            subst hfr
            have e11 : u 11 = .pointer (some ⟨B, 0, none⟩) := Have.get (k := 11) hn rfl
            simp only [e11] at hK
            have HK := Lib.hid hK
            clear hK hn
            go_simp
            have h9 := HK.out
            revert h9
            clear HK
            go_simp
            try exact id
          refine Steps.cons ?_ ?_
          · refine FreeStep.val [] _ rfl rfl fun u β W hW hn fr hfr K hK => ?_
            simp only [frameL, putL, Act.put, List.setIfInBounds_toArray, List.set_cons_zero, List.set_cons_succ, Nat.zero_add, Nat.reduceAdd] at hfr
            subst hfr
            have e12 : u 12 = .pointer (some ⟨B, 0, none⟩) := Have.get (k := 12) hn rfl
            simp only [e12] at hK
            have HK := Lib.hid hK
            clear hK hn
            go_simp
            have h9 := HK.out
            revert h9
            clear HK
            go_simp
            try exact id
          refine Steps.cons ?_ ?_
          · refine FreeStep.val [] _ rfl rfl fun u β W hW hn fr hfr K hK => ?_
            simp only [frameL, putL, Act.put, List.setIfInBounds_toArray, List.set_cons_zero, List.set_cons_succ, Nat.zero_add, Nat.reduceAdd] at hfr
            subst hfr
            have e13 : u 13 = .pointer (some ⟨B, 0, none⟩) := Have.get (k := 13) hn rfl
            simp only [e13] at hK
            obtain ⟨y0, y1, y2, y3, y4, y5, yl⟩ := id (X2.out.later hW).all6
            have HK := Lib.hid hK
            clear hK hn
            go_simp
            have h9 := HK.out
            revert h9
            clear HK
            go_simp
            try exact id
          refine Steps.cons ?_ ?_
          · refine FreeStep.calm [] _ rfl rfl fun u β W hW hn fr hfr K hK => ?_
            simp only [frameL, putL, Act.put, List.setIfInBounds_toArray, List.set_cons_zero, List.set_cons_succ, Nat.zero_add, Nat.reduceAdd] at hfr
            subst hfr
            have e9 : u 9 = .slice A8 lp k8 := Have.get (k := 9) hn rfl
            have e10 : u 10 = .int .i64 n := Have.get (k := 10) hn rfl
            have e14 : u 14 = .int .i64 S := Have.get (k := 14) hn rfl
            simp only [e9, e10, e14] at hK
            simp only [Act.put, List.setIfInBounds_toArray, List.set_cons_zero, List.set_cons_succ] at hK
            have Q := Lib.hid (QP.out W (HB2.out.trans (hW.mono HB2.out.size)))
            have HK := Lib.hid hK
            clear hK hn
            go_simp
            refine Q.out.mono ?_
            rintro e w9 ⟨rfl, hb9⟩
            have h9 := HK.out w9 hb9
            revert h9
            clear HK
            go_simp
            try exact id
          refine Steps.cons ?_ ?_
          · refine FreeStep.val [] _ rfl rfl fun u β W hW hn fr hfr K hK => ?_
            simp only [frameL, putL, Act.put, List.setIfInBounds_toArray, List.set_cons_zero, List.set_cons_succ, Nat.zero_add, Nat.reduceAdd] at hfr
            subst hfr
            have e15 : u 15 = .bool false := Have.get (k := 15) hn rfl
            simp only [e15] at hK
            have HK := Lib.hid hK
            clear hK hn
            go_simp
            have h9 := HK.out
            revert h9
            clear HK
            go_simp
            try exact id
          refine Steps.cons ?_ ?_
          · refine FreeStep.val [] _ rfl rfl fun u β W hW hn fr hfr K hK => ?_
            simp only [frameL, putL, Act.put, List.setIfInBounds_toArray, List.set_cons_zero, List.set_cons_succ, Nat.zero_add, Nat.reduceAdd] at hfr
            subst hfr
            have e16 : u 16 = .bool true := Have.get (k := 16) hn rfl
            simp only [e16] at hK
            have HK := Lib.hid hK
            clear hK hn
            go_simp
            have h9 := HK.out
            revert h9
            clear HK
            go_simp
            try exact id
          refine Steps.cons ?_ ?_
          · refine FreeStep.val [] _ rfl rfl fun u β W hW hn fr hfr K hK => ?_
            simp only [frameL, putL, Act.put, List.setIfInBounds_toArray, List.set_cons_zero, List.set_cons_succ, Nat.zero_add, Nat.reduceAdd] at hfr
            subst hfr
            have e17 : u 17 = .bool true := Have.get (k := 17) hn rfl
            simp only [e17] at hK
            have HK := Lib.hid hK
            clear hK hn
            go_simp
            have h9 := HK.out
            revert h9
            clear HK
            go_simp
            try exact id
          refine Steps.cons ?_ ?_
          · refine FreeStep.val [] _ rfl rfl fun u β W hW hn fr hfr K hK => ?_
            simp only [frameL, putL, Act.put, List.setIfInBounds_toArray, List.set_cons_zero, List.set_cons_succ, Nat.zero_add, Nat.reduceAdd] at hfr
            subst hfr
            have e18 : u 18 = undef := Have.get (k := 18) hn rfl
            have e17 : u 17 = .bool true := Have.get (k := 17) hn rfl
            simp only [e18, e17] at hK
            have HK := Lib.hid hK
            clear hK hn
            go_simp
            have h9 := HK.out
            revert h9
            clear HK
            go_simp
            try exact id
          refine Steps.cons ?_ ?_
          · refine FreeStep.val [] _ rfl rfl fun u β W hW hn fr hfr K hK => ?_
            simp only [frameL, putL, Act.put, List.setIfInBounds_toArray, List.set_cons_zero, List.set_cons_succ, Nat.zero_add, Nat.reduceAdd] at hfr
            subst hfr
            have e19 : u 19 = undef := Have.get (k := 19) hn rfl
            have e17 : u 17 = .bool true := Have.get (k := 17) hn rfl
            simp only [e19, e17] at hK
            have HK := Lib.hid hK
            clear hK hn
            go_simp
            have h9 := HK.out
            revert h9
            clear HK
            go_simp
            try exact id
          refine Steps.cons ?_ ?_
          · refine FreeStep.val [] _ rfl rfl fun u β W hW hn fr hfr K hK => ?_
            simp only [frameL, putL, Act.put, List.setIfInBounds_toArray, List.set_cons_zero, List.set_cons_succ, Nat.zero_add, Nat.reduceAdd] at hfr
            subst hfr
            have e20 : u 20 = undef := Have.get (k := 20) hn rfl
            have e17 : u 17 = .bool true := Have.get (k := 17) hn rfl
            simp only [e20, e17] at hK
            have HK := Lib.hid hK
            clear hK hn
            go_simp
            have h9 := HK.out
            revert h9
            clear HK
            go_simp
            try exact id
          refine Steps.cons ?_ ?_
          · refine FreeStep.val [] _ rfl rfl fun u β W hW hn fr hfr K hK => ?_
            simp only [frameL, putL, Act.put, List.setIfInBounds_toArray, List.set_cons_zero, List.set_cons_succ, Nat.zero_add, Nat.reduceAdd] at hfr
            subst hfr
            have e17 : u 17 = .bool true := Have.get (k := 17) hn rfl
            simp only [e17] at hK
            have HK := Lib.hid hK
            clear hK hn
            go_simp
            have h9 := HK.out
            revert h9
            clear HK
            go_simp
            try exact id
          refine Steps.cons ?_ ?_
          · refine FreeStep.val [] _ rfl rfl fun u β W hW hn fr hfr K hK => ?_
            simp only [frameL, putL, Act.put, List.setIfInBounds_toArray, List.set_cons_zero, List.set_cons_succ, Nat.zero_add, Nat.reduceAdd] at hfr
            subst hfr
            have e21 : u 21 = undef := Have.get (k := 21) hn rfl
            have e22 : u 22 = undef := Have.get (k := 22) hn rfl
            have e17 : u 17 = .bool true := Have.get (k := 17) hn rfl
            simp only [e21, e22, e17] at hK
            have HK := Lib.hid hK
            clear hK hn
            go_simp
            have h9 := HK.out
            revert h9
            clear HK
            go_simp
            try exact id
          refine Steps.cons ?_ ?_
          · refine FreeStep.val [] _ rfl rfl fun u β W hW hn fr hfr K hK => ?_
            simp only [frameL, putL, Act.put, List.setIfInBounds_toArray, List.set_cons_zero, List.set_cons_succ, Nat.zero_add, Nat.reduceAdd] at hfr
            subst hfr
            have e23 : u 23 = undef := Have.get (k := 23) hn rfl
            have e17 : u 17 = .bool true := Have.get (k := 17) hn rfl
            simp only [e23, e17] at hK
            have HK := Lib.hid hK
            clear hK hn
            go_simp
            have h9 := HK.out
            revert h9
            clear HK
            go_simp
            try exact id
          refine Steps.cons ?_ ?_
          · refine FreeStep.val [] _ rfl rfl fun u β W hW hn fr hfr K hK => ?_
            simp only [frameL, putL, Act.put, List.setIfInBounds_toArray, List.set_cons_zero, List.set_cons_succ, Nat.zero_add, Nat.reduceAdd] at hfr
            subst hfr
            have e17 : u 17 = .bool true := Have.get (k := 17) hn rfl
            simp only [e17] at hK
            have HK := Lib.hid hK
            clear hK hn
            go_simp
            have h9 := HK.out
            revert h9
            clear HK
            go_simp
            try exact id
          refine Steps.cons ?_ ?_
          · refine FreeStep.val [] _ rfl rfl fun u β W hW hn fr hfr K hK => ?_
            simp only [frameL, putL, Act.put, List.setIfInBounds_toArray, List.set_cons_zero, List.set_cons_succ, Nat.zero_add, Nat.reduceAdd] at hfr
            subst hfr
            have e24 : u 24 = undef := Have.get (k := 24) hn rfl
            have e25 : u 25 = undef := Have.get (k := 25) hn rfl
            have e17 : u 17 = .bool true := Have.get (k := 17) hn rfl
            simp only [e24, e25, e17] at hK
            have HK := Lib.hid hK
            clear hK hn
            go_simp
            have h9 := HK.out
            revert h9
            clear HK
            go_simp
            try exact id
          refine Steps.cons ?_ ?_
          · refine FreeStep.val [] _ rfl rfl fun u β W hW hn fr hfr K hK => ?_
            simp only [frameL, putL, Act.put, List.setIfInBounds_toArray, List.set_cons_zero, List.set_cons_succ, Nat.zero_add, Nat.reduceAdd] at hfr
            subst hfr
            have e26 : u 26 = undef := Have.get (k := 26) hn rfl
            have e17 : u 17 = .bool true := Have.get (k := 17) hn rfl
            simp only [e26, e17] at hK
            have HK := Lib.hid hK
            clear hK hn
            go_simp
            have h9 := HK.out
            revert h9
            clear HK
            go_simp
            try exact id
          refine Steps.cons ?_ ?_
          · refine FreeStep.val [] _ rfl rfl fun u β W hW hn fr hfr K hK => ?_
            simp only [frameL, putL, Act.put, List.setIfInBounds_toArray, List.set_cons_zero, List.set_cons_succ, Nat.zero_add, Nat.reduceAdd] at hfr
            subst hfr
            have e17 : u 17 = .bool true := Have.get (k := 17) hn rfl
            simp only [e17] at hK
            have HK := Lib.hid hK
            clear hK hn
            go_simp
            have h9 := HK.out
            revert h9
            clear HK
            go_simp
            try exact id
          refine Steps.cons ?_ ?_
          · refine FreeStep.val [] _ rfl rfl fun u β W hW hn fr hfr K hK => ?_
            simp only [frameL, putL, Act.put, List.setIfInBounds_toArray, List.set_cons_zero, List.set_cons_succ, Nat.zero_add, Nat.reduceAdd] at hfr
            subst hfr
            have e28 : u 28 = undef := Have.get (k := 28) hn rfl
            have e17 : u 17 = .bool true := Have.get (k := 17) hn rfl
            simp only [e28, e17] at hK
            have HK := Lib.hid hK
            clear hK hn
            go_simp
            have h9 := HK.out
            revert h9
            clear HK
            go_simp
            try exact id
          refine Steps.cons ?_ ?_
          · refine FreeStep.val [] _ rfl rfl fun u β W hW hn fr hfr K hK => ?_
            simp only [frameL, putL, Act.put, List.setIfInBounds_toArray, List.set_cons_zero, List.set_cons_succ, Nat.zero_add, Nat.reduceAdd] at hfr
            subst hfr
            have e27 : u 27 = undef := Have.get (k := 27) hn rfl
            have e29 : u 29 = undef := Have.get (k := 29) hn rfl
            have e17 : u 17 = .bool true := Have.get (k := 17) hn rfl
            simp only [e27, e29, e17] at hK
            have HK := Lib.hid hK
            clear hK hn
            go_simp
            have h9 := HK.out
            revert h9
            clear HK
            go_simp
            try exact id
          refine Steps.cons ?_ ?_
          · refine FreeStep.val [] _ rfl rfl fun u β W hW hn fr hfr K hK => ?_
            simp only [frameL, putL, Act.put, List.setIfInBounds_toArray, List.set_cons_zero, List.set_cons_succ, Nat.zero_add, Nat.reduceAdd] at hfr
            subst hfr
            have e30 : u 30 = undef := Have.get (k := 30) hn rfl
            have e17 : u 17 = .bool true := Have.get (k := 17) hn rfl
            simp only [e30, e17] at hK
            have HK := Lib.hid hK
            clear hK hn
            go_simp
            have h9 := HK.out
            revert h9
            clear HK
            go_simp
            try exact id
          refine Steps.cons ?_ ?_
          · refine FreeStep.val [] _ rfl rfl fun u β W hW hn fr hfr K hK => ?_
            simp only [frameL, putL, Act.put, List.setIfInBounds_toArray, List.set_cons_zero, List.set_cons_succ, Nat.zero_add, Nat.reduceAdd] at hfr
            subst hfr
            have e17 : u 17 = .bool true := Have.get (k := 17) hn rfl
            have e31 : u 31 = undef := Have.get (k := 31) hn rfl
            simp only [e17, e31] at hK
            have HK := Lib.hid hK
            clear hK hn
            go_simp
            have h9 := HK.out
            revert h9
            clear HK
            go_simp
            try exact id
          refine Steps.cons ?_ ?_
          · refine FreeStep.val [] _ rfl rfl fun u β W hW hn fr hfr K hK => ?_
            simp only [frameL, putL, Act.put, List.setIfInBounds_toArray, List.set_cons_zero, List.set_cons_succ, Nat.zero_add, Nat.reduceAdd] at hfr
            subst hfr
            have e32 : u 32 = .bool true := Have.get (k := 32) hn rfl
            simp only [e32] at hK
            have HK := Lib.hid hK
            clear hK hn
            go_simp
            have h9 := HK.out
            revert h9
            clear HK
            go_simp
            try exact id
          refine Steps.cons ?_ ?_
          · refine FreeStep.val [] _ rfl rfl fun u β W hW hn fr hfr K hK => ?_
            simp only [frameL, putL, Act.put, List.setIfInBounds_toArray, List.set_cons_zero, List.set_cons_succ, Nat.zero_add, Nat.reduceAdd] at hfr
            subst hfr
            have e33 : u 33 = .bool true := Have.get (k := 33) hn rfl
            simp only [e33] at hK
            have HK := Lib.hid hK
            clear hK hn
            go_simp
            have h9 := HK.out
            revert h9
            clear HK
            go_simp
            try exact id
          refine Steps.cons ?_ ?_
          · refine FreeStep.val [] _ rfl rfl fun u β W hW hn fr hfr K hK => ?_
            simp only [frameL, putL, Act.put, List.setIfInBounds_toArray, List.set_cons_zero, List.set_cons_succ, Nat.zero_add, Nat.reduceAdd] at hfr
            subst hfr
            have e34 : u 34 = undef := Have.get (k := 34) hn rfl
            have e33 : u 33 = .bool true := Have.get (k := 33) hn rfl
            simp only [e34, e33] at hK
            have HK := Lib.hid hK
            clear hK hn
            go_simp
            have h9 := HK.out
            revert h9
            clear HK
            go_simp
            try exact id
          refine Steps.cons ?_ ?_
          · refine FreeStep.val [] _ rfl rfl fun u β W hW hn fr hfr K hK => ?_
            simp only [frameL, putL, Act.put, List.setIfInBounds_toArray, List.set_cons_zero, List.set_cons_succ, Nat.zero_add, Nat.reduceAdd] at hfr
            subst hfr
            have e35 : u 35 = undef := Have.get (k := 35) hn rfl
            have e33 : u 33 = .bool true := Have.get (k := 33) hn rfl
            simp only [e35, e33] at hK
            have HK := Lib.hid hK
            clear hK hn
            go_simp
            have h9 := HK.out
            revert h9
            clear HK
            go_simp
            try exact id
          refine Steps.cons ?_ ?_
          · refine FreeStep.val [] _ rfl rfl fun u β W hW hn fr hfr K hK => ?_
            simp only [frameL, putL, Act.put, List.setIfInBounds_toArray, List.set_cons_zero, List.set_cons_succ, Nat.zero_add, Nat.reduceAdd] at hfr
            subst hfr
            have e36 : u 36 = undef := Have.get (k := 36) hn rfl
            have e33 : u 33 = .bool true := Have.get (k := 33) hn rfl
            simp only [e36, e33] at hK
            have HK := Lib.hid hK
            clear hK hn
            go_simp
            have h9 := HK.out
            revert h9
            clear HK
            go_simp
            try exact id
          refine Steps.cons ?_ ?_
          · refine FreeStep.val [] _ rfl rfl fun u β W hW hn fr hfr K hK => ?_
            simp only [frameL, putL, Act.put, List.setIfInBounds_toArray, List.set_cons_zero, List.set_cons_succ, Nat.zero_add, Nat.reduceAdd] at hfr
            subst hfr
            have e33 : u 33 = .bool true := Have.get (k := 33) hn rfl
            simp only [e33] at hK
            have HK := Lib.hid hK
            clear hK hn
            go_simp
            have h9 := HK.out
            revert h9
            clear HK
            go_simp
            try exact id
          refine Steps.cons ?_ ?_
          · refine FreeStep.val [] _ rfl rfl fun u β W hW hn fr hfr K hK => ?_
            simp only [frameL, putL, Act.put, List.setIfInBounds_toArray, List.set_cons_zero, List.set_cons_succ, Nat.zero_add, Nat.reduceAdd] at hfr
            subst hfr
            have e37 : u 37 = undef := Have.get (k := 37) hn rfl
            have e38 : u 38 = undef := Have.get (k := 38) hn rfl
            have e33 : u 33 = .bool true := Have.get (k := 33) hn rfl
            simp only [e37, e38, e33] at hK
            have HK := Lib.hid hK
            clear hK hn
            go_simp
            have h9 := HK.out
            revert h9
            clear HK
            go_simp
            try exact id
          refine Steps.cons ?_ ?_
          · refine FreeStep.val [] _ rfl rfl fun u β W hW hn fr hfr K hK => ?_
            simp only [frameL, putL, Act.put, List.setIfInBounds_toArray, List.set_cons_zero, List.set_cons_succ, Nat.zero_add, Nat.reduceAdd] at hfr
            subst hfr
            have e39 : u 39 = undef := Have.get (k := 39) hn rfl
            have e33 : u 33 = .bool true := Have.get (k := 33) hn rfl
            simp only [e39, e33] at hK
            have HK := Lib.hid hK
            clear hK hn
            go_simp
            have h9 := HK.out
            revert h9
            clear HK
            go_simp
            try exact id
          refine Steps.cons ?_ ?_
          · refine FreeStep.val [] _ rfl rfl fun u β W hW hn fr hfr K hK => ?_
            simp only [frameL, putL, Act.put, List.setIfInBounds_toArray, List.set_cons_zero, List.set_cons_succ, Nat.zero_add, Nat.reduceAdd] at hfr
            subst hfr
            have e33 : u 33 = .bool true := Have.get (k := 33) hn rfl
            simp only [e33] at hK
            have HK := Lib.hid hK
            clear hK hn
            go_simp
            have h9 := HK.out
            revert h9
            clear HK
            go_simp
            try exact id
          refine Steps.cons ?_ ?_
          · refine FreeStep.val [] _ rfl rfl fun u β W hW hn fr hfr K hK => ?_
            simp only [frameL, putL, Act.put, List.setIfInBounds_toArray, List.set_cons_zero, List.set_cons_succ, Nat.zero_add, Nat.reduceAdd] at hfr
            subst hfr
            have e40 : u 40 = undef := Have.get (k := 40) hn rfl
            have e41 : u 41 = undef := Have.get (k := 41) hn rfl
            have e33 : u 33 = .bool true := Have.get (k := 33) hn rfl
            simp only [e40, e41, e33] at hK
            have HK := Lib.hid hK
            clear hK hn
            go_simp
            have h9 := HK.out
            revert h9
            clear HK
            go_simp
            try exact id
          refine Steps.cons ?_ ?_
          · refine FreeStep.val [] _ rfl rfl fun u β W hW hn fr hfr K hK => ?_
            simp only [frameL, putL, Act.put, List.setIfInBounds_toArray, List.set_cons_zero, List.set_cons_succ, Nat.zero_add, Nat.reduceAdd] at hfr
            subst hfr
            have e42 : u 42 = undef := Have.get (k := 42) hn rfl
            have e33 : u 33 = .bool true := Have.get (k := 33) hn rfl
            simp only [e42, e33] at hK
            have HK := Lib.hid hK
            clear hK hn
            go_simp
            have h9 := HK.out
            revert h9
            clear HK
            go_simp
            try exact id
          refine Steps.cons ?_ ?_
          · refine FreeStep.val [] _ rfl rfl fun u β W hW hn fr hfr K hK => ?_
            simp only [frameL, putL, Act.put, List.setIfInBounds_toArray, List.set_cons_zero, List.set_cons_succ, Nat.zero_add, Nat.reduceAdd] at hfr
            subst hfr
            have e43 : u 43 = undef := Have.get (k := 43) hn rfl
            have e33 : u 33 = .bool true := Have.get (k := 33) hn rfl
            simp only [e43, e33] at hK
            have HK := Lib.hid hK
            clear hK hn
            go_simp
            have h9 := HK.out
            revert h9
            clear HK
            go_simp
            try exact id
          refine Steps.cons ?_ ?_
          · refine FreeStep.val [] _ rfl rfl fun u β W hW hn fr hfr K hK => ?_
            simp only [frameL, putL, Act.put, List.setIfInBounds_toArray, List.set_cons_zero, List.set_cons_succ, Nat.zero_add, Nat.reduceAdd] at hfr
            subst hfr
            have e33 : u 33 = .bool true := Have.get (k := 33) hn rfl
            simp only [e33] at hK
            have HK := Lib.hid hK
            clear hK hn
            go_simp
            have h9 := HK.out
            revert h9
            clear HK
            go_simp
            try exact id
          refine Steps.cons ?_ ?_
          · refine FreeStep.val [] _ rfl rfl fun u β W hW hn fr hfr K hK => ?_
            simp only [frameL, putL, Act.put, List.setIfInBounds_toArray, List.set_cons_zero, List.set_cons_succ, Nat.zero_add, Nat.reduceAdd] at hfr
            subst hfr
            have e45 : u 45 = undef := Have.get (k := 45) hn rfl
            have e33 : u 33 = .bool true := Have.get (k := 33) hn rfl
            simp only [e45, e33] at hK
            have HK := Lib.hid hK
            clear hK hn
            go_simp
            have h9 := HK.out
            revert h9
            clear HK
            go_simp
            try exact id
          refine Steps.cons ?_ ?_
          · refine FreeStep.val [] _ rfl rfl fun u β W hW hn fr hfr K hK => ?_
            simp only [frameL, putL, Act.put, List.setIfInBounds_toArray, List.set_cons_zero, List.set_cons_succ, Nat.zero_add, Nat.reduceAdd] at hfr
            subst hfr
            have e46 : u 46 = undef := Have.get (k := 46) hn rfl
            have e33 : u 33 = .bool true := Have.get (k := 33) hn rfl
            simp only [e46, e33] at hK
            have HK := Lib.hid hK
            clear hK hn
            go_simp
            have h9 := HK.out
            revert h9
            clear HK
            go_simp
            try exact id
          refine Steps.cons ?_ ?_
          · refine FreeStep.val [] _ rfl rfl fun u β W hW hn fr hfr K hK => ?_
            simp only [frameL, putL, Act.put, List.setIfInBounds_toArray, List.set_cons_zero, List.set_cons_succ, Nat.zero_add, Nat.reduceAdd] at hfr
            subst hfr
            have e47 : u 47 = undef := Have.get (k := 47) hn rfl
            have e33 : u 33 = .bool true := Have.get (k := 33) hn rfl
            simp only [e47, e33] at hK
            have HK := Lib.hid hK
            clear hK hn
            go_simp
            have h9 := HK.out
            revert h9
            clear HK
            go_simp
            try exact id
          refine Steps.cons ?_ ?_
          · refine FreeStep.val [] _ rfl rfl fun u β W hW hn fr hfr K hK => ?_
            simp only [frameL, putL, Act.put, List.setIfInBounds_toArray, List.set_cons_zero, List.set_cons_succ, Nat.zero_add, Nat.reduceAdd] at hfr
            subst hfr
            have e48 : u 48 = undef := Have.get (k := 48) hn rfl
            have e33 : u 33 = .bool true := Have.get (k := 33) hn rfl
            simp only [e48, e33] at hK
            have HK := Lib.hid hK
            clear hK hn
            go_simp
            have h9 := HK.out
            revert h9
            clear HK
            go_simp
            try exact id
          refine Steps.cons ?_ ?_
          · refine FreeStep.val [] _ rfl rfl fun u β W hW hn fr hfr K hK => ?_
            simp only [frameL, putL, Act.put, List.setIfInBounds_toArray, List.set_cons_zero, List.set_cons_succ, Nat.zero_add, Nat.reduceAdd] at hfr
            subst hfr
            have e44 : u 44 = undef := Have.get (k := 44) hn rfl
            have e49 : u 49 = undef := Have.get (k := 49) hn rfl
            have e33 : u 33 = .bool true := Have.get (k := 33) hn rfl
            simp only [e44, e49, e33] at hK
            have HK := Lib.hid hK
            clear hK hn
            go_simp
            have h9 := HK.out
            revert h9
            clear HK
            go_simp
            try exact id
          refine Steps.cons ?_ ?_
          · refine FreeStep.val [] _ rfl rfl fun u β W hW hn fr hfr K hK => ?_
            simp only [frameL, putL, Act.put, List.setIfInBounds_toArray, List.set_cons_zero, List.set_cons_succ, Nat.zero_add, Nat.reduceAdd] at hfr
            subst hfr
            have e33 : u 33 = .bool true := Have.get (k := 33) hn rfl
            have e50 : u 50 = undef := Have.get (k := 50) hn rfl
            simp only [e33, e50] at hK
            have HK := Lib.hid hK
            clear hK hn
            go_simp
            have h9 := HK.out
            revert h9
            clear HK
            go_simp
            try exact id
          exact Steps.nil
        case tailR =>
          intro u_ β_ W hW hn hdis hbnd
          have z0 : u_ 0 = .pointer (some ⟨B, 0, none⟩) := Have.get (k := 0) hn rfl
          have z1 : u_ 1 = .pointer (some ⟨B, 0, none⟩) := Have.get (k := 1) hn rfl
          have z2 : u_ 2 = .pointer (some ⟨B, 3, none⟩) := Have.get (k := 2) hn rfl
          have z3 : u_ 3 = .slice (some ⟨g2, 0, none⟩) n k2 := Have.get (k := 3) hn rfl
          have z4 : u_ 4 = .int .i64 s := Have.get (k := 4) hn rfl
          have z5 : u_ 5 = .pointer (some ⟨g2, s, none⟩) := Have.get (k := 5) hn rfl
          have z6 : u_ 6 = .slice (some ⟨g5, 0, none⟩) 2 k5 := Have.get (k := 6) hn rfl
          have z7 : u_ 7 = .int .i64 k := Have.get (k := 7) hn rfl
          have z8 : u_ 8 = .pointer (some ⟨g5, k, none⟩) := Have.get (k := 8) hn rfl
          have z9 : u_ 9 = .slice A8 lp k8 := Have.get (k := 9) hn rfl
          have z10 : u_ 10 = .int .i64 n := Have.get (k := 10) hn rfl
          have z11 : u_ 11 = .pointer (some ⟨B, 0, none⟩) := Have.get (k := 11) hn rfl
          have z12 : u_ 12 = .pointer (some ⟨B, 0, none⟩) := Have.get (k := 12) hn rfl
          have z13 : u_ 13 = .pointer (some ⟨B, 0, none⟩) := Have.get (k := 13) hn rfl
          have z14 : u_ 14 = .int .i64 S := Have.get (k := 14) hn rfl
          have z15 : u_ 15 = .bool false := Have.get (k := 15) hn rfl
          have z16 : u_ 16 = .bool true := Have.get (k := 16) hn rfl
          have z17 : u_ 17 = .bool true := Have.get (k := 17) hn rfl
          have z18 : u_ 18 = undef := Have.get (k := 18) hn rfl
          have z19 : u_ 19 = undef := Have.get (k := 19) hn rfl
          have z20 : u_ 20 = undef := Have.get (k := 20) hn rfl
          have z21 : u_ 21 = undef := Have.get (k := 21) hn rfl
          have z22 : u_ 22 = undef := Have.get (k := 22) hn rfl
          have z23 : u_ 23 = undef := Have.get (k := 23) hn rfl
          have z24 : u_ 24 = undef := Have.get (k := 24) hn rfl
          have z25 : u_ 25 = undef := Have.get (k := 25) hn rfl
          have z26 : u_ 26 = undef := Have.get (k := 26) hn rfl
          have z27 : u_ 27 = undef := Have.get (k := 27) hn rfl
          have z28 : u_ 28 = undef := Have.get (k := 28) hn rfl
          have z29 : u_ 29 = undef := Have.get (k := 29) hn rfl
          have z30 : u_ 30 = undef := Have.get (k := 30) hn rfl
          have z31 : u_ 31 = undef := Have.get (k := 31) hn rfl
          have z32 : u_ 32 = .bool true := Have.get (k := 32) hn rfl
          have z33 : u_ 33 = .bool true := Have.get (k := 33) hn rfl
          have z34 : u_ 34 = undef := Have.get (k := 34) hn rfl
          have z35 : u_ 35 = undef := Have.get (k := 35) hn rfl
          have z36 : u_ 36 = undef := Have.get (k := 36) hn rfl
          have z37 : u_ 37 = undef := Have.get (k := 37) hn rfl
          have z38 : u_ 38 = undef := Have.get (k := 38) hn rfl
          have z39 : u_ 39 = undef := Have.get (k := 39) hn rfl
          have z40 : u_ 40 = undef := Have.get (k := 40) hn rfl
          have z41 : u_ 41 = undef := Have.get (k := 41) hn rfl
          have z42 : u_ 42 = undef := Have.get (k := 42) hn rfl
          have z43 : u_ 43 = undef := Have.get (k := 43) hn rfl
          have z44 : u_ 44 = undef := Have.get (k := 44) hn rfl
          have z45 : u_ 45 = undef := Have.get (k := 45) hn rfl
          have z46 : u_ 46 = undef := Have.get (k := 46) hn rfl
          have z47 : u_ 47 = undef := Have.get (k := 47) hn rfl
          have z48 : u_ 48 = undef := Have.get (k := 48) hn rfl
          have z49 : u_ 49 = undef := Have.get (k := 49) hn rfl
          have z50 : u_ 50 = undef := Have.get (k := 50) hn rfl
          have z51 : u_ 51 = .bool true := Have.get (k := 51) hn rfl
          rw [← frameL_eq (by kernel_rfl)]
          clear hn hdis hbnd
          simp only [frameL, putL, Act.put, List.setIfInBounds_toArray, List.set_cons_zero, List.set_cons_succ, Nat.zero_add, Nat.reduceAdd, z0, z1, z2, z3, z4, z5, z6, z7, z8, z9, z10, z11, z12, z13, z14, z15, z16, z17, z18, z19, z20, z21, z22, z23, z24, z25, z26, z27, z28, z29, z30, z31, z32, z33, z34, z35, z36, z37, z38, z39, z40, z41, z42, z43, z44, z45, z46, z47, z48, z49, z50, z51]
          clear z0 z1 z2 z3 z4 z5 z6 z7 z8 z9 z10 z11 z12 z13 z14 z15 z16 z17 z18 z19 z20 z21 z22 z23 z24 z25 z26 z27 z28 z29 z30 z31 z32 z33 z34 z35 z36 z37 z38 z39 z40 z41 z42 z43 z44 z45 z46 z47 z48 z49 z50 z51
          have hBW := HB2.out.trans (hW.mono HB2.out.size)
          go_wp2
          go_ret
          exact ⟨by rw [hf.out]; rfl, hBW⟩
      | true =>
      rw [kp] at QP
      have HRR := Lib.hid (HRR.out kp)
      clear kp HP
      cases kq : risB q n with
      | false =>
        have hf := Lib.hid (HNO2.out (HQ.out kq))
        rw [kq] at QQ
        clear kq HQ HL HRR HS2 HNO2
        refine wp_region_free (by kernel_rfl) [
            .val [] (fun _ => .pointer (some ⟨B, 0, none⟩)),
            .val [] (fun _ => .pointer (some ⟨B, 0, none⟩)),
            .val [] (fun _ => .pointer (some ⟨B, 3, none⟩)),
            .val [] (fun _ => .slice (some ⟨g2, 0, none⟩) n k2),
            .val [] (fun _ => .int .i64 s),
            .val [] (fun _ => .pointer (some ⟨g2, s, none⟩)),
            .val [] (fun _ => .slice (some ⟨g5, 0, none⟩) 2 k5),
            .val [] (fun _ => .int .i64 k),
            .val [] (fun _ => .pointer (some ⟨g5, k, none⟩)),
            .val [] (fun _ => .slice A8 lp k8),
            .val [] (fun _ => .int .i64 n),
            .val [] (fun _ => .pointer (some ⟨B, 0, none⟩)),
            .val [] (fun _ => .pointer (some ⟨B, 0, none⟩)),
            .val [] (fun _ => .pointer (some ⟨B, 0, none⟩)),
            .val [] (fun _ => .int .i64 S),
            .val [] (fun _ => .bool true),
            .val [] (fun _ => .bool false),
            .val [] (fun _ => .bool false),
            .val [] (fun _ => .pointer (some ⟨B, 0, none⟩)),
            .val [] (fun _ => .pointer (some ⟨B, 0, none⟩)),
            .val [] (fun _ => .pointer (some ⟨B, 5, none⟩)),
            .val [] (fun _ => .slice (some ⟨g4, 0, none⟩) n k4),
            .val [] (fun _ => .int .i64 s),
            .val [] (fun _ => .pointer (some ⟨g4, s, none⟩)),
            .val [] (fun _ => .slice (some ⟨g7, 0, none⟩) 2 k7),
            .val [] (fun _ => .int .i64 k),
            .val [] (fun _ => .pointer (some ⟨g7, k, none⟩)),
            .val [] (fun _ => .slice A10 lq k10),
            .val [] (fun _ => .int .i64 n),
            .val [] (fun _ => .int .i64 ((n : Int) - 1)),
            .val [] (fun _ => .bool false),
            .val [] (fun _ => .bool true),
            .val [] (fun _ => .bool true),
            .val [] (fun _ => .bool true),
            .val [] (fun _ => undef),
            .val [] (fun _ => undef),
            .val [] (fun _ => undef),
            .val [] (fun _ => undef),
            .val [] (fun _ => undef),
            .val [] (fun _ => undef),
            .val [] (fun _ => undef),
            .val [] (fun _ => undef),
            .val [] (fun _ => undef),
            .val [] (fun _ => undef),
            .val [] (fun _ => undef),
            .val [] (fun _ => undef),
            .val [] (fun _ => undef),
            .val [] (fun _ => undef),
            .val [] (fun _ => undef),
            .val [] (fun _ => undef),
            .val [] (fun _ => undef),
            .val [] (fun _ => .bool true)] ?hp ?hfw ?deps ?oks ?steps ?tailR
        case hp => kernel_rfl
        case hfw => kernel_rfl
        case deps => kernel_rfl
        case oks =>
          intro F hF
          simp only [List.mem_cons, List.not_mem_nil, or_false] at hF
          rcases hF with rfl | rfl | rfl | rfl | rfl | rfl | rfl | rfl | rfl | rfl | rfl | rfl | rfl | rfl | rfl | rfl | rfl | rfl | rfl | rfl | rfl | rfl | rfl | rfl | rfl | rfl | rfl | rfl | rfl | rfl | rfl | rfl | rfl | rfl | rfl | rfl | rfl | rfl | rfl | rfl | rfl | rfl | rfl | rfl | rfl | rfl | rfl | rfl | rfl | rfl | rfl | rfl
          · trivial
          · trivial
          · trivial
          · trivial
          · trivial
          · trivial
          · trivial
          · trivial
          · trivial
          · trivial
          · trivial
          · trivial
          · trivial
          · trivial
          · trivial
          · trivial
          · trivial
          · trivial
          · trivial
          · trivial
          · trivial
          · trivial
          · trivial
          · trivial
          · trivial
          · trivial
          · trivial
          · trivial
          · trivial
          · trivial
          · trivial
          · trivial
          · trivial
          · trivial
          · trivial
          · trivial
          · trivial
          · trivial
          · trivial
          · trivial
          · trivial
          · trivial
          · trivial
          · trivial
          · trivial
          · trivial
          · trivial
          · trivial
          · trivial
          · trivial
          · trivial
          · trivial
        case steps =>
          refine Steps.cons ?_ ?_
          · refine FreeStep.val [] _ rfl rfl fun u β W hW hn fr hfr K hK => ?_
            simp only [frameL, putL, Act.put, List.setIfInBounds_toArray, List.set_cons_zero, List.set_cons_succ, Nat.zero_add, Nat.reduceAdd] at hfr
            subst hfr
            have HK := Lib.hid hK
            clear hK hn
            go_simp
            have h9 := HK.out
            revert h9
            clear HK
            go_simp
            try exact id
          refine Steps.cons ?_ ?_
          · refine FreeStep.val [] _ rfl rfl fun u β W hW hn fr hfr K hK => ?_
            simp only [frameL, putL, Act.put, List.setIfInBounds_toArray, List.set_cons_zero, List.set_cons_succ, Nat.zero_add, Nat.reduceAdd] at hfr
            subst hfr
            have e0 : u 0 = .pointer (some ⟨B, 0, none⟩) := Have.get (k := 0) hn rfl
            simp only [e0] at hK
            have HK := Lib.hid hK
            clear hK hn
            go_simp
            have h9 := HK.out
            revert h9
            clear HK
            go_simp
            try exact id
          refine Steps.cons ?_ ?_
          · refine FreeStep.val [] _ rfl rfl fun u β W hW hn fr hfr K hK => ?_
            simp only [frameL, putL, Act.put, List.setIfInBounds_toArray, List.set_cons_zero, List.set_cons_succ, Nat.zero_add, Nat.reduceAdd] at hfr
            subst hfr
            have e1 : u 1 = .pointer (some ⟨B, 0, none⟩) := Have.get (k := 1) hn rfl
            simp only [e1] at hK
            have HK := Lib.hid hK
            clear hK hn
            go_simp
            have h9 := HK.out
            revert h9
            clear HK
            go_simp
            try exact id
          refine Steps.cons ?_ ?_
          · refine FreeStep.val [] _ rfl rfl fun u β W hW hn fr hfr K hK => ?_
            simp only [frameL, putL, Act.put, List.setIfInBounds_toArray, List.set_cons_zero, List.set_cons_succ, Nat.zero_add, Nat.reduceAdd] at hfr
            subst hfr
            have e2 : u 2 = .pointer (some ⟨B, 3, none⟩) := Have.get (k := 2) hn rfl
            simp only [e2] at hK
            obtain ⟨y0, y1, y2, y3, y4, y5, yl⟩ := id (X2.out.later hW).all6
            have HK := Lib.hid hK
            clear hK hn
            go_simp
            have h9 := HK.out
            revert h9
            clear HK
            go_simp
            try exact id
          refine Steps.cons ?_ ?_
          · refine FreeStep.val [] _ rfl rfl fun u β W hW hn fr hfr K hK => ?_
            simp only [frameL, putL, Act.put, List.setIfInBounds_toArray, List.set_cons_zero, List.set_cons_succ, Nat.zero_add, Nat.reduceAdd] at hfr
            subst hfr
            have HK := Lib.hid hK
            clear hK hn
            go_simp
            have h9 := HK.out
            revert h9
            clear HK
            go_simp
            try exact id
          refine Steps.cons ?_ ?_
          · refine FreeStep.val [] _ rfl rfl fun u β W hW hn fr hfr K hK => ?_
            simp only [frameL, putL, Act.put, List.setIfInBounds_toArray, List.set_cons_zero, List.set_cons_succ, Nat.zero_add, Nat.reduceAdd] at hfr
            subst hfr
            have e3 : u 3 = .slice (some ⟨g2, 0, none⟩) n k2 := Have.get (k := 3) hn rfl
            have e4 : u 4 = .int .i64 s := Have.get (k := 4) hn rfl
            simp only [e3, e4] at hK
            have HK := Lib.hid hK
            clear hK hn
            go_simp
            have h9 := HK.out
            revert h9
            clear HK
            go_simp
            try exact id
          refine Steps.cons ?_ ?_
          · refine FreeStep.val [] _ rfl rfl fun u β W hW hn fr hfr K hK => ?_
            simp only [frameL, putL, Act.put, List.setIfInBounds_toArray, List.set_cons_zero, List.set_cons_succ, Nat.zero_add, Nat.reduceAdd] at hfr
            subst hfr
            have e5 : u 5 = .pointer (some ⟨g2, s, none⟩) := Have.get (k := 5) hn rfl
            simp only [e5] at hK
            have c0 := cellL D2.out.1 hW
            have HK := Lib.hid hK
            clear hK hn
            go_simp
            have h9 := HK.out
            revert h9
            clear HK
            go_simp
            try exact id
          refine Steps.cons ?_ ?_
          · refine FreeStep.val [] _ rfl rfl fun u β W hW hn fr hfr K hK => ?_
            simp only [frameL, putL, Act.put, List.setIfInBounds_toArray, List.set_cons_zero, List.set_cons_succ, Nat.zero_add, Nat.reduceAdd] at hfr
            subst hfr
            have HK := Lib.hid hK
            clear hK hn
            go_simp
            have h9 := HK.out
            revert h9
            clear HK
            go_simp
            try exact id
          refine Steps.cons ?_ ?_
          · refine FreeStep.val [] _ rfl rfl fun u β W hW hn fr hfr K hK => ?_
            simp only [frameL, putL, Act.put, List.setIfInBounds_toArray, List.set_cons_zero, List.set_cons_succ, Nat.zero_add, Nat.reduceAdd] at hfr
            subst hfr
            have e6 : u 6 = .slice (some ⟨g5, 0, none⟩) 2 k5 := Have.get (k := 6) hn rfl
            have e7 : u 7 = .int .i64 k := Have.get (k := 7) hn rfl
            simp only [e6, e7] at hK
            have HK := Lib.hid hK
            clear hK hn
            go_simp
            have h9 := HK.out
            revert h9
            clear HK
            go_simp
            try exact id
          refine Steps.cons ?_ ?_
          · refine FreeStep.val [] _ rfl rfl fun u β W hW hn fr hfr K hK => ?_
            simp only [frameL, putL, Act.put, List.setIfInBounds_toArray, List.set_cons_zero, List.set_cons_succ, Nat.zero_add, Nat.reduceAdd] at hfr
            subst hfr
            have e8 : u 8 = .pointer (some ⟨g5, k, none⟩) := Have.get (k := 8) hn rfl
            simp only [e8] at hK
            have c0 := cellL D5.out.1 hW
            have HK := Lib.hid hK
            clear hK hn
            go_simp
            have h9 := HK.out
            revert h9
            clear HK
            go_simp
            try exact id
          refine Steps.cons ?_ ?_
          · refine FreeStep.val [] _ rfl rfl fun u β W hW hn fr hfr K hK => ?_
            simp only [frameL, putL, Act.put, List.setIfInBounds_toArray, List.set_cons_zero, List.set_cons_succ, Nat.zero_add, Nat.reduceAdd] at hfr
            subst hfr
            have HK := Lib.hid hK
            clear hK hn
            go_simp
            have h9 := HK.out
            revert h9
            clear HK
            go_simp
            try exact id
          refine Steps.cons ?_ ?_
          · refine FreeStep.val [] _ rfl rfl fun u β W hW hn fr hfr K hK => ?_
            simp only [frameL, putL, Act.put, List.setIfInBounds_toArray, List.set_cons_zero, List.set_cons_succ, Nat.zero_add, Nat.reduceAdd] at hfr
            subst hfr
            have HK := Lib.hid hK
            clear hK hn
            go_simp
            have h9 := HK.out
            revert h9
            clear HK
            go_simp
            try exact id
          refine Steps.cons ?_ ?_
          · refine FreeStep.val [] _ rfl rfl fun u β W hW hn fr hfr K hK => ?_
            simp only [frameL, putL, Act.put, List.setIfInBounds_toArray, List.set_cons_zero, List.set_cons_succ, Nat.zero_add, Nat.reduceAdd] at hfr
            subst hfr
            have e11 : u 11 = .pointer (some ⟨B, 0, none⟩) := Have.get (k := 11) hn rfl
            simp only [e11] at hK
            have HK := Lib.hid hK
            clear hK hn
            go_simp
            have h9 := HK.out
            revert h9
            clear HK
            go_simp
            try exact id
          refine Steps.cons ?_ ?_
          · refine FreeStep.val [] _ rfl rfl fun u β W hW hn fr hfr K hK => ?_
            simp only [frameL, putL, Act.put, List.setIfInBounds_toArray, List.set_cons_zero, List.set_cons_succ, Nat.zero_add, Nat.reduceAdd] at hfr
            subst hfr
            have e12 : u 12 = .pointer (some ⟨B, 0, none⟩) := Have.get (k := 12) hn rfl
            simp only [e12] at hK
            have HK := Lib.hid hK
            clear hK hn
            go_simp
            have h9 := HK.out
            revert h9
            clear HK
            go_simp
            try exact id
          refine Steps.cons ?_ ?_
          · refine FreeStep.val [] _ rfl rfl fun u β W hW hn fr hfr K hK => ?_
            simp only [frameL, putL, Act.put, List.setIfInBounds_toArray, List.set_cons_zero, List.set_cons_succ, Nat.zero_add, Nat.reduceAdd] at hfr
            subst hfr
            have e13 : u 13 = .pointer (some ⟨B, 0, none⟩) := Have.get (k := 13) hn rfl
            simp only [e13] at hK
            obtain ⟨y0, y1, y2, y3, y4, y5, yl⟩ := id (X2.out.later hW).all6
            have HK := Lib.hid hK
            clear hK hn
            go_simp
            have h9 := HK.out
            revert h9
            clear HK
            go_simp
            try exact id
          refine Steps.cons ?_ ?_
          · refine FreeStep.calm [] _ rfl rfl fun u β W hW hn fr hfr K hK => ?_
            simp only [frameL, putL, Act.put, List.setIfInBounds_toArray, List.set_cons_zero, List.set_cons_succ, Nat.zero_add, Nat.reduceAdd] at hfr
            subst hfr
            have e9 : u 9 = .slice A8 lp k8 := Have.get (k := 9) hn rfl
            have e10 : u 10 = .int .i64 n := Have.get (k := 10) hn rfl
            have e14 : u 14 = .int .i64 S := Have.get (k := 14) hn rfl
            simp only [e9, e10, e14] at hK
            simp only [Act.put, List.setIfInBounds_toArray, List.set_cons_zero, List.set_cons_succ] at hK
            have Q := Lib.hid (QP.out W (HB2.out.trans (hW.mono HB2.out.size)))
            have HK := Lib.hid hK
            clear hK hn
            go_simp
            refine Q.out.mono ?_
            rintro e w9 ⟨rfl, hb9⟩
            have h9 := HK.out w9 hb9
            revert h9
            clear HK
            go_simp
            try exact id
          refine Steps.cons ?_ ?_
          · refine FreeStep.val [] _ rfl rfl fun u β W hW hn fr hfr K hK => ?_
            simp only [frameL, putL, Act.put, List.setIfInBounds_toArray, List.set_cons_zero, List.set_cons_succ, Nat.zero_add, Nat.reduceAdd] at hfr
            subst hfr
            have e15 : u 15 = .bool true := Have.get (k := 15) hn rfl
            simp only [e15] at hK
            have HK := Lib.hid hK
            clear hK hn
            go_simp
            have h9 := HK.out
            revert h9
            clear HK
            go_simp
            try exact id
          refine Steps.cons ?_ ?_
          · refine FreeStep.val [] _ rfl rfl fun u β W hW hn fr hfr K hK => ?_
            simp only [frameL, putL, Act.put, List.setIfInBounds_toArray, List.set_cons_zero, List.set_cons_succ, Nat.zero_add, Nat.reduceAdd] at hfr
            subst hfr
            have e16 : u 16 = .bool false := Have.get (k := 16) hn rfl
            simp only [e16] at hK
            have HK := Lib.hid hK
            clear hK hn
            go_simp
            have h9 := HK.out
            revert h9
            clear HK
            go_simp
            try exact id
          refine Steps.cons ?_ ?_
          · refine FreeStep.val [] _ rfl rfl fun u β W hW hn fr hfr K hK => ?_
            simp only [frameL, putL, Act.put, List.setIfInBounds_toArray, List.set_cons_zero, List.set_cons_succ, Nat.zero_add, Nat.reduceAdd] at hfr
            subst hfr
            have e17 : u 17 = .bool false := Have.get (k := 17) hn rfl
            simp only [e17] at hK
            have HK := Lib.hid hK
            clear hK hn
            go_simp
            have h9 := HK.out
            revert h9
            clear HK
            go_simp
            try exact id
          refine Steps.cons ?_ ?_
          · refine FreeStep.val [] _ rfl rfl fun u β W hW hn fr hfr K hK => ?_
            simp only [frameL, putL, Act.put, List.setIfInBounds_toArray, List.set_cons_zero, List.set_cons_succ, Nat.zero_add, Nat.reduceAdd] at hfr
            subst hfr
            have e18 : u 18 = .pointer (some ⟨B, 0, none⟩) := Have.get (k := 18) hn rfl
            have e17 : u 17 = .bool false := Have.get (k := 17) hn rfl
            simp only [e18, e17] at hK
            have HK := Lib.hid hK
            clear hK hn
            go_simp
            have h9 := HK.out
            revert h9
            clear HK
            go_simp
            try exact id
          refine Steps.cons ?_ ?_
          · refine FreeStep.val [] _ rfl rfl fun u β W hW hn fr hfr K hK => ?_
            simp only [frameL, putL, Act.put, List.setIfInBounds_toArray, List.set_cons_zero, List.set_cons_succ, Nat.zero_add, Nat.reduceAdd] at hfr
            subst hfr
            have e19 : u 19 = .pointer (some ⟨B, 0, none⟩) := Have.get (k := 19) hn rfl
            have e17 : u 17 = .bool false := Have.get (k := 17) hn rfl
            simp only [e19, e17] at hK
            have HK := Lib.hid hK
            clear hK hn
            go_simp
            have h9 := HK.out
            revert h9
            clear HK
            go_simp
            try exact id
          refine Steps.cons ?_ ?_
          · refine FreeStep.val [] _ rfl rfl fun u β W hW hn fr hfr K hK => ?_
            simp only [frameL, putL, Act.put, List.setIfInBounds_toArray, List.set_cons_zero, List.set_cons_succ, Nat.zero_add, Nat.reduceAdd] at hfr
            subst hfr
            have e20 : u 20 = .pointer (some ⟨B, 5, none⟩) := Have.get (k := 20) hn rfl
            have e17 : u 17 = .bool false := Have.get (k := 17) hn rfl
            simp only [e20, e17] at hK
            obtain ⟨y0, y1, y2, y3, y4, y5, yl⟩ := id (X2.out.later hW).all6
            have HK := Lib.hid hK
            clear hK hn
            go_simp
            have h9 := HK.out
            revert h9
            clear HK
            go_simp
            try exact id
          refine Steps.cons ?_ ?_
          · refine FreeStep.val [] _ rfl rfl fun u β W hW hn fr hfr K hK => ?_
            simp only [frameL, putL, Act.put, List.setIfInBounds_toArray, List.set_cons_zero, List.set_cons_succ, Nat.zero_add, Nat.reduceAdd] at hfr
            subst hfr
            have e17 : u 17 = .bool false := Have.get (k := 17) hn rfl
            simp only [e17] at hK
            have HK := Lib.hid hK
            clear hK hn
            go_simp
            have h9 := HK.out
            revert h9
            clear HK
            go_simp
            try exact id
          refine Steps.cons ?_ ?_
          · refine FreeStep.val [] _ rfl rfl fun u β W hW hn fr hfr K hK => ?_
            simp only [frameL, putL, Act.put, List.setIfInBounds_toArray, List.set_cons_zero, List.set_cons_succ, Nat.zero_add, Nat.reduceAdd] at hfr
            subst hfr
            have e21 : u 21 = .slice (some ⟨g4, 0, none⟩) n k4 := Have.get (k := 21) hn rfl
            have e22 : u 22 = .int .i64 s := Have.get (k := 22) hn rfl
            have e17 : u 17 = .bool false := Have.get (k := 17) hn rfl
            simp only [e21, e22, e17] at hK
            have HK := Lib.hid hK
            clear hK hn
            go_simp
            have h9 := HK.out
            revert h9
            clear HK
            go_simp
            try exact id
          refine Steps.cons ?_ ?_
          · refine FreeStep.val [] _ rfl rfl fun u β W hW hn fr hfr K hK => ?_
            simp only [frameL, putL, Act.put, List.setIfInBounds_toArray, List.set_cons_zero, List.set_cons_succ, Nat.zero_add, Nat.reduceAdd] at hfr
            subst hfr
            have e23 : u 23 = .pointer (some ⟨g4, s, none⟩) := Have.get (k := 23) hn rfl
            have e17 : u 17 = .bool false := Have.get (k := 17) hn rfl
            simp only [e23, e17] at hK
            have c0 := cellL D2.out.2.2 hW
            have HK := Lib.hid hK
            clear hK hn
            go_simp
            have h9 := HK.out
            revert h9
            clear HK
            go_simp
            try exact id
          refine Steps.cons ?_ ?_
          · refine FreeStep.val [] _ rfl rfl fun u β W hW hn fr hfr K hK => ?_
            simp only [frameL, putL, Act.put, List.setIfInBounds_toArray, List.set_cons_zero, List.set_cons_succ, Nat.zero_add, Nat.reduceAdd] at hfr
            subst hfr
            have e17 : u 17 = .bool false := Have.get (k := 17) hn rfl
            simp only [e17] at hK
            have HK := Lib.hid hK
            clear hK hn
            go_simp
            have h9 := HK.out
            revert h9
            clear HK
            go_simp
            try exact id
          refine Steps.cons ?_ ?_
          · refine FreeStep.val [] _ rfl rfl fun u β W hW hn fr hfr K hK => ?_
            simp only [frameL, putL, Act.put, List.setIfInBounds_toArray, List.set_cons_zero, List.set_cons_succ, Nat.zero_add, Nat.reduceAdd] at hfr
            subst hfr
            have e24 : u 24 = .slice (some ⟨g7, 0, none⟩) 2 k7 := Have.get (k := 24) hn rfl
            have e25 : u 25 = .int .i64 k := Have.get (k := 25) hn rfl
            have e17 : u 17 = .bool false := Have.get (k := 17) hn rfl
            simp only [e24, e25, e17] at hK
            have HK := Lib.hid hK
            clear hK hn
            go_simp
            have h9 := HK.out
            revert h9
            clear HK
            go_simp
            try exact id
          refine Steps.cons ?_ ?_
          · refine FreeStep.val [] _ rfl rfl fun u β W hW hn fr hfr K hK => ?_
            simp only [frameL, putL, Act.put, List.setIfInBounds_toArray, List.set_cons_zero, List.set_cons_succ, Nat.zero_add, Nat.reduceAdd] at hfr
            subst hfr
            have e26 : u 26 = .pointer (some ⟨g7, k, none⟩) := Have.get (k := 26) hn rfl
            have e17 : u 17 = .bool false := Have.get (k := 17) hn rfl
            simp only [e26, e17] at hK
            have c0 := cellL D5.out.2.2 hW
            have HK := Lib.hid hK
            clear hK hn
            go_simp
            have h9 := HK.out
            revert h9
            clear HK
            go_simp
            try exact id
          refine Steps.cons ?_ ?_
          · refine FreeStep.val [] _ rfl rfl fun u β W hW hn fr hfr K hK => ?_
            simp only [frameL, putL, Act.put, List.setIfInBounds_toArray, List.set_cons_zero, List.set_cons_succ, Nat.zero_add, Nat.reduceAdd] at hfr
            subst hfr
            have e17 : u 17 = .bool false := Have.get (k := 17) hn rfl
            simp only [e17] at hK
            have HK := Lib.hid hK
            clear hK hn
            go_simp
            have h9 := HK.out
            revert h9
            clear HK
            go_simp
            try exact id
          refine Steps.cons ?_ ?_
          · refine FreeStep.val [] _ rfl rfl fun u β W hW hn fr hfr K hK => ?_
            simp only [frameL, putL, Act.put, List.setIfInBounds_toArray, List.set_cons_zero, List.set_cons_succ, Nat.zero_add, Nat.reduceAdd] at hfr
            subst hfr
            have e28 : u 28 = .int .i64 n := Have.get (k := 28) hn rfl
            have e17 : u 17 = .bool false := Have.get (k := 17) hn rfl
            simp only [e28, e17] at hK
            have HK := Lib.hid hK
            clear hK hn
            go_simp
            have h9 := HK.out
            revert h9
            clear HK
            go_simp
            try exact id
          refine Steps.cons ?_ ?_
          · refine FreeStep.calm [] _ rfl rfl fun u β W hW hn fr hfr K hK => ?_
            simp only [frameL, putL, Act.put, List.setIfInBounds_toArray, List.set_cons_zero, List.set_cons_succ, Nat.zero_add, Nat.reduceAdd] at hfr
            subst hfr
            have e27 : u 27 = .slice A10 lq k10 := Have.get (k := 27) hn rfl
            have e29 : u 29 = .int .i64 ((n : Int) - 1) := Have.get (k := 29) hn rfl
            have e17 : u 17 = .bool false := Have.get (k := 17) hn rfl
            simp only [e27, e29, e17] at hK
            simp only [Act.put, List.setIfInBounds_toArray, List.set_cons_zero, List.set_cons_succ] at hK
            have Q := Lib.hid (QQ.out W (HB2.out.trans (hW.mono HB2.out.size)))
            have HK := Lib.hid hK
            clear hK hn
            go_simp
            refine Q.out.mono ?_
            rintro e w9 ⟨rfl, q9, hq9⟩
            have hb9 : Below W.heap.size W w9 := by rw [hq9]; exact below_drewN (Below.refl _ _) _
            clear hq9
            have h9 := HK.out w9 hb9
            revert h9
            clear HK
            go_simp
            try exact id
          refine Steps.cons ?_ ?_
          · refine FreeStep.val [] _ rfl rfl fun u β W hW hn fr hfr K hK => ?_
            simp only [frameL, putL, Act.put, List.setIfInBounds_toArray, List.set_cons_zero, List.set_cons_succ, Nat.zero_add, Nat.reduceAdd] at hfr
            subst hfr
            have e30 : u 30 = .bool false := Have.get (k := 30) hn rfl
            have e17 : u 17 = .bool false := Have.get (k := 17) hn rfl
            simp only [e30, e17] at hK
            have HK := Lib.hid hK
            clear hK hn
            go_simp
            have h9 := HK.out
            revert h9
            clear HK
            go_simp
            try exact id
          refine Steps.cons ?_ ?_
          · refine FreeStep.val [] _ rfl rfl fun u β W hW hn fr hfr K hK => ?_
            simp only [frameL, putL, Act.put, List.setIfInBounds_toArray, List.set_cons_zero, List.set_cons_succ, Nat.zero_add, Nat.reduceAdd] at hfr
            subst hfr
            have e17 : u 17 = .bool false := Have.get (k := 17) hn rfl
            have e31 : u 31 = .bool true := Have.get (k := 31) hn rfl
            simp only [e17, e31] at hK
            have HK := Lib.hid hK
            clear hK hn
            go_simp
            have h9 := HK.out
            revert h9
            clear HK
            go_simp
            try exact id
          refine Steps.cons ?_ ?_
          · refine FreeStep.val [] _ rfl rfl fun u β W hW hn fr hfr K hK => ?_
            simp only [frameL, putL, Act.put, List.setIfInBounds_toArray, List.set_cons_zero, List.set_cons_succ, Nat.zero_add, Nat.reduceAdd] at hfr
            subst hfr
            have e32 : u 32 = .bool true := Have.get (k := 32) hn rfl
            simp only [e32] at hK
            have HK := Lib.hid hK
            clear hK hn
            go_simp
            have h9 := HK.out
            revert h9
            clear HK
            go_simp
            try exact id
          refine Steps.cons ?_ ?_
          · refine FreeStep.val [] _ rfl rfl fun u β W hW hn fr hfr K hK => ?_
            simp only [frameL, putL, Act.put, List.setIfInBounds_toArray, List.set_cons_zero, List.set_cons_succ, Nat.zero_add, Nat.reduceAdd] at hfr
            subst hfr
            have e33 : u 33 = .bool true := Have.get (k := 33) hn rfl
            simp only [e33] at hK
            have HK := Lib.hid hK
            clear hK hn
            go_simp
            have h9 := HK.out
            revert h9
            clear HK
            go_simp
            try exact id
          refine Steps.cons ?_ ?_
          · refine FreeStep.val [] _ rfl rfl fun u β W hW hn fr hfr K hK => ?_
            simp only [frameL, putL, Act.put, List.setIfInBounds_toArray, List.set_cons_zero, List.set_cons_succ, Nat.zero_add, Nat.reduceAdd] at hfr
            subst hfr
            have e34 : u 34 = undef := Have.get (k := 34) hn rfl
            have e33 : u 33 = .bool true := Have.get (k := 33) hn rfl
            simp only [e34, e33] at hK
            have HK := Lib.hid hK
            clear hK hn
            go_simp
            have h9 := HK.out
            revert h9
            clear HK
            go_simp
            try exact id
          refine Steps.cons ?_ ?_
          · refine FreeStep.val [] _ rfl rfl fun u β W hW hn fr hfr K hK => ?_
            simp only [frameL, putL, Act.put, List.setIfInBounds_toArray, List.set_cons_zero, List.set_cons_succ, Nat.zero_add, Nat.reduceAdd] at hfr
            subst hfr
            have e35 : u 35 = undef := Have.get (k := 35) hn rfl
            have e33 : u 33 = .bool true := Have.get (k := 33) hn rfl
            simp only [e35, e33] at hK
            have HK := Lib.hid hK
            clear hK hn
            go_simp
            have h9 := HK.out
            revert h9
            clear HK
            go_simp
            try exact id
          refine Steps.cons ?_ ?_
          · refine FreeStep.val [] _ rfl rfl fun u β W hW hn fr hfr K hK => ?_
            simp only [frameL, putL, Act.put, List.setIfInBounds_toArray, List.set_cons_zero, List.set_cons_succ, Nat.zero_add, Nat.reduceAdd] at hfr
            subst hfr
            have e36 : u 36 = undef := Have.get (k := 36) hn rfl
            have e33 : u 33 = .bool true := Have.get (k := 33) hn rfl
            simp only [e36, e33] at hK
            have HK := Lib.hid hK
            clear hK hn
            go_simp
            have h9 := HK.out
            revert h9
            clear HK
            go_simp
            try exact id
          refine Steps.cons ?_ ?_
          · refine FreeStep.val [] _ rfl rfl fun u β W hW hn fr hfr K hK => ?_
            simp only [frameL, putL, Act.put, List.setIfInBounds_toArray, List.set_cons_zero, List.set_cons_succ, Nat.zero_add, Nat.reduceAdd] at hfr
            subst hfr
            have e33 : u 33 = .bool true := Have.get (k := 33) hn rfl
            simp only [e33] at hK
            have HK := Lib.hid hK
            clear hK hn
            go_simp
            have h9 := HK.out
            revert h9
            clear HK
            go_simp
            try exact id
          refine Steps.cons ?_ ?_
          · refine FreeStep.val [] _ rfl rfl fun u β W hW hn fr hfr K hK => ?_
            simp only [frameL, putL, Act.put, List.setIfInBounds_toArray, List.set_cons_zero, List.set_cons_succ, Nat.zero_add, Nat.reduceAdd] at hfr
            subst hfr
            have e37 : u 37 = undef := Have.get (k := 37) hn rfl
            have e38 : u 38 = undef := Have.get (k := 38) hn rfl
            have e33 : u 33 = .bool true := Have.get (k := 33) hn rfl
            simp only [e37, e38, e33] at hK
            have HK := Lib.hid hK
            clear hK hn
            go_simp
            have h9 := HK.out
            revert h9
            clear HK
            go_simp
            try exact id
          refine Steps.cons ?_ ?_
          · refine FreeStep.val [] _ rfl rfl fun u β W hW hn fr hfr K hK => ?_
            simp only [frameL, putL, Act.put, List.setIfInBounds_toArray, List.set_cons_zero, List.set_cons_succ, Nat.zero_add, Nat.reduceAdd] at hfr
            subst hfr
            have e39 : u 39 = undef := Have.get (k := 39) hn rfl
            have e33 : u 33 = .bool true := Have.get (k := 33) hn rfl
            simp only [e39, e33] at hK
            have HK := Lib.hid hK
            clear hK hn
            go_simp
            have h9 := HK.out
            revert h9
            clear HK
            go_simp
            try exact id
          refine Steps.cons ?_ ?_
          · refine FreeStep.val [] _ rfl rfl fun u β W hW hn fr hfr K hK => ?_
            simp only [frameL, putL, Act.put, List.setIfInBounds_toArray, List.set_cons_zero, List.set_cons_succ, Nat.zero_add, Nat.reduceAdd] at hfr
            subst hfr
            have e33 : u 33 = .bool true := Have.get (k := 33) hn rfl
            simp only [e33] at hK
            have HK := Lib.hid hK
            clear hK hn
            go_simp
            have h9 := HK.out
            revert h9
            clear HK
            go_simp
            try exact id
          refine Steps.cons ?_ ?_
          · refine FreeStep.val [] _ rfl rfl fun u β W hW hn fr hfr K hK => ?_
            simp only [frameL, putL, Act.put, List.setIfInBounds_toArray, List.set_cons_zero, List.set_cons_succ, Nat.zero_add, Nat.reduceAdd] at hfr
            subst hfr
            have e40 : u 40 = undef := Have.get (k := 40) hn rfl
            have e41 : u 41 = undef := Have.get (k := 41) hn rfl
            have e33 : u 33 = .bool true := Have.get (k := 33) hn rfl
            simp only [e40, e41, e33] at hK
            have HK := Lib.hid hK
            clear hK hn
            go_simp
            have h9 := HK.out
            revert h9
            clear HK
            go_simp
            try exact id
          refine Steps.cons ?_ ?_
          · refine FreeStep.val [] _ rfl rfl fun u β W hW hn fr hfr K hK => ?_
            simp only [frameL, putL, Act.put, List.setIfInBounds_toArray, List.set_cons_zero, List.set_cons_succ, Nat.zero_add, Nat.reduceAdd] at hfr
            subst hfr
            have e42 : u 42 = undef := Have.get (k := 42) hn rfl
            have e33 : u 33 = .bool true := Have.get (k := 33) hn rfl
            simp only [e42, e33] at hK
            have HK := Lib.hid hK
            clear hK hn
            go_simp
            have h9 := HK.out
            revert h9
            clear HK
            go_simp
            try exact id
          refine Steps.cons ?_ ?_
          · refine FreeStep.val [] _ rfl rfl fun u β W hW hn fr hfr K hK => ?_
            simp only [frameL, putL, Act.put, List.setIfInBounds_toArray, List.set_cons_zero, List.set_cons_succ, Nat.zero_add, Nat.reduceAdd] at hfr
            subst hfr
            have e43 : u 43 = undef := Have.get (k := 43) hn rfl
            have e33 : u 33 = .bool true := Have.get (k := 33) hn rfl
            simp only [e43, e33] at hK
            have HK := Lib.hid hK
            clear hK hn
            go_simp
            have h9 := HK.out
            revert h9
            clear HK
            go_simp
            try exact id
          refine Steps.cons ?_ ?_
          · refine FreeStep.val [] _ rfl rfl fun u β W hW hn fr hfr K hK => ?_
            simp only [frameL, putL, Act.put, List.setIfInBounds_toArray, List.set_cons_zero, List.set_cons_succ, Nat.zero_add, Nat.reduceAdd] at hfr
            subst hfr
            have e33 : u 33 = .bool true := Have.get (k := 33) hn rfl
            simp only [e33] at hK
            have HK := Lib.hid hK
            clear hK hn
            go_simp
            have h9 := HK.out
            revert h9
            clear HK
            go_simp
            try exact id
          refine Steps.cons ?_ ?_
          · refine FreeStep.val [] _ rfl rfl fun u β W hW hn fr hfr K hK => ?_
            simp only [frameL, putL, Act.put, List.setIfInBounds_toArray, List.set_cons_zero, List.set_cons_succ, Nat.zero_add, Nat.reduceAdd] at hfr
            subst hfr
            have e45 : u 45 = undef := Have.get (k := 45) hn rfl
            have e33 : u 33 = .bool true := Have.get (k := 33) hn rfl
            simp only [e45, e33] at hK
            have HK := Lib.hid hK
            clear hK hn
            go_simp
            have h9 := HK.out
            revert h9
            clear HK
            go_simp
            try exact id
          refine Steps.cons ?_ ?_
          · refine FreeStep.val [] _ rfl rfl fun u β W hW hn fr hfr K hK => ?_
            simp only [frameL, putL, Act.put, List.setIfInBounds_toArray, List.set_cons_zero, List.set_cons_succ, Nat.zero_add, Nat.reduceAdd] at hfr
            subst hfr
            have e46 : u 46 = undef := Have.get (k := 46) hn rfl
            have e33 : u 33 = .bool true := Have.get (k := 33) hn rfl
            simp only [e46, e33] at hK
            have HK := Lib.hid hK
            clear hK hn
            go_simp
            have h9 := HK.out
            revert h9
            clear HK
            go_simp
            try exact id
          refine Steps.cons ?_ ?_
          · refine FreeStep.val [] _ rfl rfl fun u β W hW hn fr hfr K hK => ?_
            simp only [frameL, putL, Act.put, List.setIfInBounds_toArray, List.set_cons_zero, List.set_cons_succ, Nat.zero_add, Nat.reduceAdd] at hfr
            subst hfr
            have e47 : u 47 = undef := Have.get (k := 47) hn rfl
            have e33 : u 33 = .bool true := Have.get (k := 33) hn rfl
            simp only [e47, e33] at hK
            have HK := Lib.hid hK
            clear hK hn
            go_simp
            have h9 := HK.out
            revert h9
            clear HK
            go_simp
            try exact id
          refine Steps.cons ?_ ?_
          · refine FreeStep.val [] _ rfl rfl fun u β W hW hn fr hfr K hK => ?_
            simp only [frameL, putL, Act.put, List.setIfInBounds_toArray, List.set_cons_zero, List.set_cons_succ, Nat.zero_add, Nat.reduceAdd] at hfr
            subst hfr
            have e48 : u 48 = undef := Have.get (k := 48) hn rfl
            have e33 : u 33 = .bool true := Have.get (k := 33) hn rfl
            simp only [e48, e33] at hK
            have HK := Lib.hid hK
            clear hK hn
            go_simp
            have h9 := HK.out
            revert h9
            clear HK
            go_simp
            try exact id
          refine Steps.cons ?_ ?_
          · refine FreeStep.val [] _ rfl rfl fun u β W hW hn fr hfr K hK => ?_
            simp only [frameL, putL, Act.put, List.setIfInBounds_toArray, List.set_cons_zero, List.set_cons_succ, Nat.zero_add, Nat.reduceAdd] at hfr
            subst hfr
            have e44 : u 44 = undef := Have.get (k := 44) hn rfl
            have e49 : u 49 = undef := Have.get (k := 49) hn rfl
            have e33 : u 33 = .bool true := Have.get (k := 33) hn rfl
            simp only [e44, e49, e33] at hK
            have HK := Lib.hid hK
            clear hK hn
            go_simp
            have h9 := HK.out
            revert h9
            clear HK
            go_simp
            try exact id
          refine Steps.cons ?_ ?_
          · refine FreeStep.val [] _ rfl rfl fun u β W hW hn fr hfr K hK => ?_
            simp only [frameL, putL, Act.put, List.setIfInBounds_toArray, List.set_cons_zero, List.set_cons_succ, Nat.zero_add, Nat.reduceAdd] at hfr
            subst hfr
            have e33 : u 33 = .bool true := Have.get (k := 33) hn rfl
            have e50 : u 50 = undef := Have.get (k := 50) hn rfl
            simp only [e33, e50] at hK
            have HK := Lib.hid hK
            clear hK hn
            go_simp
            have h9 := HK.out
            revert h9
            clear HK
            go_simp
            try exact id
          exact Steps.nil
        case tailR =>
          intro u_ β_ W hW hn hdis hbnd
          have z0 : u_ 0 = .pointer (some ⟨B, 0, none⟩) := Have.get (k := 0) hn rfl
          have z1 : u_ 1 = .pointer (some ⟨B, 0, none⟩) := Have.get (k := 1) hn rfl
          have z2 : u_ 2 = .pointer (some ⟨B, 3, none⟩) := Have.get (k := 2) hn rfl
          have z3 : u_ 3 = .slice (some ⟨g2, 0, none⟩) n k2 := Have.get (k := 3) hn rfl
          have z4 : u_ 4 = .int .i64 s := Have.get (k := 4) hn rfl
          have z5 : u_ 5 = .pointer (some ⟨g2, s, none⟩) := Have.get (k := 5) hn rfl
          have z6 : u_ 6 = .slice (some ⟨g5, 0, none⟩) 2 k5 := Have.get (k := 6) hn rfl
          have z7 : u_ 7 = .int .i64 k := Have.get (k := 7) hn rfl
          have z8 : u_ 8 = .pointer (some ⟨g5, k, none⟩) := Have.get (k := 8) hn rfl
          have z9 : u_ 9 = .slice A8 lp k8 := Have.get (k := 9) hn rfl
          have z10 : u_ 10 = .int .i64 n := Have.get (k := 10) hn rfl
          have z11 : u_ 11 = .pointer (some ⟨B, 0, none⟩) := Have.get (k := 11) hn rfl
          have z12 : u_ 12 = .pointer (some ⟨B, 0, none⟩) := Have.get (k := 12) hn rfl
          have z13 : u_ 13 = .pointer (some ⟨B, 0, none⟩) := Have.get (k := 13) hn rfl
          have z14 : u_ 14 = .int .i64 S := Have.get (k := 14) hn rfl
          have z15 : u_ 15 = .bool true := Have.get (k := 15) hn rfl
          have z16 : u_ 16 = .bool false := Have.get (k := 16) hn rfl
          have z17 : u_ 17 = .bool false := Have.get (k := 17) hn rfl
          have z18 : u_ 18 = .pointer (some ⟨B, 0, none⟩) := Have.get (k := 18) hn rfl
          have z19 : u_ 19 = .pointer (some ⟨B, 0, none⟩) := Have.get (k := 19) hn rfl
          have z20 : u_ 20 = .pointer (some ⟨B, 5, none⟩) := Have.get (k := 20) hn rfl
          have z21 : u_ 21 = .slice (some ⟨g4, 0, none⟩) n k4 := Have.get (k := 21) hn rfl
          have z22 : u_ 22 = .int .i64 s := Have.get (k := 22) hn rfl
          have z23 : u_ 23 = .pointer (some ⟨g4, s, none⟩) := Have.get (k := 23) hn rfl
          have z24 : u_ 24 = .slice (some ⟨g7, 0, none⟩) 2 k7 := Have.get (k := 24) hn rfl
          have z25 : u_ 25 = .int .i64 k := Have.get (k := 25) hn rfl
          have z26 : u_ 26 = .pointer (some ⟨g7, k, none⟩) := Have.get (k := 26) hn rfl
          have z27 : u_ 27 = .slice A10 lq k10 := Have.get (k := 27) hn rfl
          have z28 : u_ 28 = .int .i64 n := Have.get (k := 28) hn rfl
          have z29 : u_ 29 = .int .i64 ((n : Int) - 1) := Have.get (k := 29) hn rfl
          have z30 : u_ 30 = .bool false := Have.get (k := 30) hn rfl
          have z31 : u_ 31 = .bool true := Have.get (k := 31) hn rfl
          have z32 : u_ 32 = .bool true := Have.get (k := 32) hn rfl
          have z33 : u_ 33 = .bool true := Have.get (k := 33) hn rfl
          have z34 : u_ 34 = undef := Have.get (k := 34) hn rfl
          have z35 : u_ 35 = undef := Have.get (k := 35) hn rfl
          have z36 : u_ 36 = undef := Have.get (k := 36) hn rfl
          have z37 : u_ 37 = undef := Have.get (k := 37) hn rfl
          have z38 : u_ 38 = undef := Have.get (k := 38) hn rfl
          have z39 : u_ 39 = undef := Have.get (k := 39) hn rfl
          have z40 : u_ 40 = undef := Have.get (k := 40) hn rfl
          have z41 : u_ 41 = undef := Have.get (k := 41) hn rfl
          have z42 : u_ 42 = undef := Have.get (k := 42) hn rfl
          have z43 : u_ 43 = undef := Have.get (k := 43) hn rfl
          have z44 : u_ 44 = undef := Have.get (k := 44) hn rfl
          have z45 : u_ 45 = undef := Have.get (k := 45) hn rfl
          have z46 : u_ 46 = undef := Have.get (k := 46) hn rfl
          have z47 : u_ 47 = undef := Have.get (k := 47) hn rfl
          have z48 : u_ 48 = undef := Have.get (k := 48) hn rfl
          have z49 : u_ 49 = undef := Have.get (k := 49) hn rfl
          have z50 : u_ 50 = undef := Have.get (k := 50) hn rfl
          have z51 : u_ 51 = .bool true := Have.get (k := 51) hn rfl
          rw [← frameL_eq (by kernel_rfl)]
          clear hn hdis hbnd
          simp only [frameL, putL, Act.put, List.setIfInBounds_toArray, List.set_cons_zero, List.set_cons_succ, Nat.zero_add, Nat.reduceAdd, z0, z1, z2, z3, z4, z5, z6, z7, z8, z9, z10, z11, z12, z13, z14, z15, z16, z17, z18, z19, z20, z21, z22, z23, z24, z25, z26, z27, z28, z29, z30, z31, z32, z33, z34, z35, z36, z37, z38, z39, z40, z41, z42, z43, z44, z45, z46, z47, z48, z49, z50, z51]
          clear z0 z1 z2 z3 z4 z5 z6 z7 z8 z9 z10 z11 z12 z13 z14 z15 z16 z17 z18 z19 z20 z21 z22 z23 z24 z25 z26 z27 z28 z29 z30 z31 z32 z33 z34 z35 z36 z37 z38 z39 z40 z41 z42 z43 z44 z45 z46 z47 z48 z49 z50 z51
          have hBW := HB2.out.trans (hW.mono HB2.out.size)
          go_wp2
          go_ret
          exact ⟨by rw [hf.out]; rfl, hBW⟩
      | true =>
      rw [kq] at QQ
      have HRR := Lib.hid (HRR.out kq)
      clear kq HQ
      by_cases kl : (ll : Int) = S + 1
      case neg =>
        have hf := Lib.hid (HNO2.out (HL.out kl))
        have e7 : ((ll : Int) != S + 1) = true := by simp; omega
        have e9 : decide ((ll : Int) = S + 1) = false := decide_eq_false kl
        clear HL HRR HS2 HNO2
        refine wp_region_free (by kernel_rfl) [
            .val [] (fun _ => .pointer (some ⟨B, 0, none⟩)),
            .val [] (fun _ => .pointer (some ⟨B, 0, none⟩)),
            .val [] (fun _ => .pointer (some ⟨B, 3, none⟩)),
            .val [] (fun _ => .slice (some ⟨g2, 0, none⟩) n k2),
            .val [] (fun _ => .int .i64 s),
            .val [] (fun _ => .pointer (some ⟨g2, s, none⟩)),
            .val [] (fun _ => .slice (some ⟨g5, 0, none⟩) 2 k5),
            .val [] (fun _ => .int .i64 k),
            .val [] (fun _ => .pointer (some ⟨g5, k, none⟩)),
            .val [] (fun _ => .slice A8 lp k8),
            .val [] (fun _ => .int .i64 n),
            .val [] (fun _ => .pointer (some ⟨B, 0, none⟩)),
            .val [] (fun _ => .pointer (some ⟨B, 0, none⟩)),
            .val [] (fun _ => .pointer (some ⟨B, 0, none⟩)),
            .val [] (fun _ => .int .i64 S),
            .val [] (fun _ => .bool true),
            .val [] (fun _ => .bool false),
            .val [] (fun _ => .bool false),
            .val [] (fun _ => .pointer (some ⟨B, 0, none⟩)),
            .val [] (fun _ => .pointer (some ⟨B, 0, none⟩)),
            .val [] (fun _ => .pointer (some ⟨B, 5, none⟩)),
            .val [] (fun _ => .slice (some ⟨g4, 0, none⟩) n k4),
            .val [] (fun _ => .int .i64 s),
            .val [] (fun _ => .pointer (some ⟨g4, s, none⟩)),
            .val [] (fun _ => .slice (some ⟨g7, 0, none⟩) 2 k7),
            .val [] (fun _ => .int .i64 k),
            .val [] (fun _ => .pointer (some ⟨g7, k, none⟩)),
            .val [] (fun _ => .slice A10 lq k10),
            .val [] (fun _ => .int .i64 n),
            .val [] (fun _ => .int .i64 ((n : Int) - 1)),
            .val [] (fun _ => .bool true),
            .val [] (fun _ => .bool false),
            .val [] (fun _ => .bool false),
            .val [] (fun _ => .bool false),
            .val [] (fun _ => .pointer (some ⟨B, 0, none⟩)),
            .val [] (fun _ => .pointer (some ⟨B, 0, none⟩)),
            .val [] (fun _ => .pointer (some ⟨B, 4, none⟩)),
            .val [] (fun _ => .slice (some ⟨g3, 0, none⟩) n k3),
            .val [] (fun _ => .int .i64 s),
            .val [] (fun _ => .pointer (some ⟨g3, s, none⟩)),
            .val [] (fun _ => .slice (some ⟨g6, 0, none⟩) 2 k6),
            .val [] (fun _ => .int .i64 k),
            .val [] (fun _ => .pointer (some ⟨g6, k, none⟩)),
            .val [] (fun _ => .slice A9 ll k9),
            .val [] (fun _ => .int .i64 ll),
            .val [] (fun _ => .pointer (some ⟨B, 0, none⟩)),
            .val [] (fun _ => .pointer (some ⟨B, 0, none⟩)),
            .val [] (fun _ => .pointer (some ⟨B, 0, none⟩)),
            .val [] (fun _ => .int .i64 S),
            .val [] (fun _ => .int .i64 (S + 1)),
            .val [] (fun _ => .bool true),
            .val [] (fun _ => .bool true)] ?hp ?hfw ?deps ?oks ?steps ?tailR
        case hp => kernel_rfl
        case hfw => kernel_rfl
        case deps => kernel_rfl
        case oks =>
          intro F hF
          simp only [List.mem_cons, List.not_mem_nil, or_false] at hF
          rcases hF with rfl | rfl | rfl | rfl | rfl | rfl | rfl | rfl | rfl | rfl | rfl | rfl | rfl | rfl | rfl | rfl | rfl | rfl | rfl | rfl | rfl | rfl | rfl | rfl | rfl | rfl | rfl | rfl | rfl | rfl | rfl | rfl | rfl | rfl | rfl | rfl | rfl | rfl | rfl | rfl | rfl | rfl | rfl | rfl | rfl | rfl | rfl | rfl | rfl | rfl | rfl | rfl
          · trivial
          · trivial
          · trivial
          · trivial
          · trivial
          · trivial
          · trivial
          · trivial
          · trivial
          · trivial
          · trivial
          · trivial
          · trivial
          · trivial
          · trivial
          · trivial
          · trivial
          · trivial
          · trivial
          · trivial
          · trivial
          · trivial
          · trivial
          · trivial
          · trivial
          · trivial
          · trivial
          · trivial
          · trivial
          · trivial
          · trivial
          · trivial
          · trivial
          · trivial
          · trivial
          · trivial
          · trivial
          · trivial
          · trivial
          · trivial
          · trivial
          · trivial
          · trivial
          · trivial
          · trivial
          · trivial
          · trivial
          · trivial
          · trivial
          · trivial
          · trivial
          · trivial
        case steps =>
          refine Steps.cons ?_ ?_
          · refine FreeStep.val [] _ rfl rfl fun u β W hW hn fr hfr K hK => ?_
            simp only [frameL, putL, Act.put, List.setIfInBounds_toArray, List.set_cons_zero, List.set_cons_succ, Nat.zero_add, Nat.reduceAdd] at hfr
            subst hfr
            have HK := Lib.hid hK
            clear hK hn
            go_simp
            have h9 := HK.out
            revert h9
            clear HK
            go_simp
            try exact id
          refine Steps.cons ?_ ?_
          · refine FreeStep.val [] _ rfl rfl fun u β W hW hn fr hfr K hK => ?_
            simp only [frameL, putL, Act.put, List.setIfInBounds_toArray, List.set_cons_zero, List.set_cons_succ, Nat.zero_add, Nat.reduceAdd] at hfr
            subst hfr
            have e0 : u 0 = .pointer (some ⟨B, 0, none⟩) := Have.get (k := 0) hn rfl
            simp only [e0] at hK
            have HK := Lib.hid hK
            clear hK hn
            go_simp
            have h9 := HK.out
            revert h9
            clear HK
            go_simp
            try exact id
          refine Steps.cons ?_ ?_
          · refine FreeStep.val [] _ rfl rfl fun u β W hW hn fr hfr K hK => ?_
            simp only [frameL, putL, Act.put, List.setIfInBounds_toArray, List.set_cons_zero, List.set_cons_succ, Nat.zero_add, Nat.reduceAdd] at hfr
            subst hfr
            have e1 : u 1 = .pointer (some ⟨B, 0, none⟩) := Have.get (k := 1) hn rfl
            simp only [e1] at hK
            have HK := Lib.hid hK
            clear hK hn
            go_simp
            have h9 := HK.out
            revert h9
            clear HK
            go_simp
            try exact id
          refine Steps.cons ?_ ?_
          · refine FreeStep.val [] _ rfl rfl fun u β W hW hn fr hfr K hK => ?_
            simp only [frameL, putL, Act.put, List.setIfInBounds_toArray, List.set_cons_zero, List.set_cons_succ, Nat.zero_add, Nat.reduceAdd] at hfr
            subst hfr
            have e2 : u 2 = .pointer (some ⟨B, 3, none⟩) := Have.get (k := 2) hn rfl
            simp only [e2] at hK
            obtain ⟨y0, y1, y2, y3, y4, y5, yl⟩ := id (X2.out.later hW).all6
            have HK := Lib.hid hK
            clear hK hn
            go_simp
            have h9 := HK.out
            revert h9
            clear HK
            go_simp
            try exact id
          refine Steps.cons ?_ ?_
          · refine FreeStep.val [] _ rfl rfl fun u β W hW hn fr hfr K hK => ?_
            simp only [frameL, putL, Act.put, List.setIfInBounds_toArray, List.set_cons_zero, List.set_cons_succ, Nat.zero_add, Nat.reduceAdd] at hfr
            subst hfr
            have HK := Lib.hid hK
            clear hK hn
            go_simp
            have h9 := HK.out
            revert h9
            clear HK
            go_simp
            try exact id
          refine Steps.cons ?_ ?_
          · refine FreeStep.val [] _ rfl rfl fun u β W hW hn fr hfr K hK => ?_
            simp only [frameL, putL, Act.put, List.setIfInBounds_toArray, List.set_cons_zero, List.set_cons_succ, Nat.zero_add, Nat.reduceAdd] at hfr
            subst hfr
            have e3 : u 3 = .slice (some ⟨g2, 0, none⟩) n k2 := Have.get (k := 3) hn rfl
            have e4 : u 4 = .int .i64 s := Have.get (k := 4) hn rfl
            simp only [e3, e4] at hK
            have HK := Lib.hid hK
            clear hK hn
            go_simp
            have h9 := HK.out
            revert h9
            clear HK
            go_simp
            try exact id
          refine Steps.cons ?_ ?_
          · refine FreeStep.val [] _ rfl rfl fun u β W hW hn fr hfr K hK => ?_
            simp only [frameL, putL, Act.put, List.setIfInBounds_toArray, List.set_cons_zero, List.set_cons_succ, Nat.zero_add, Nat.reduceAdd] at hfr
            subst hfr
            have e5 : u 5 = .pointer (some ⟨g2, s, none⟩) := Have.get (k := 5) hn rfl
            simp only [e5] at hK
            have c0 := cellL D2.out.1 hW
            have HK := Lib.hid hK
            clear hK hn
            go_simp
            have h9 := HK.out
            revert h9
            clear HK
            go_simp
            try exact id
          refine Steps.cons ?_ ?_
          · refine FreeStep.val [] _ rfl rfl fun u β W hW hn fr hfr K hK => ?_
            simp only [frameL, putL, Act.put, List.setIfInBounds_toArray, List.set_cons_zero, List.set_cons_succ, Nat.zero_add, Nat.reduceAdd] at hfr
            subst hfr
            have HK := Lib.hid hK
            clear hK hn
            go_simp
            have h9 := HK.out
            revert h9
            clear HK
            go_simp
            try exact id
          refine Steps.cons ?_ ?_
          · refine FreeStep.val [] _ rfl rfl fun u β W hW hn fr hfr K hK => ?_
            simp only [frameL, putL, Act.put, List.setIfInBounds_toArray, List.set_cons_zero, List.set_cons_succ, Nat.zero_add, Nat.reduceAdd] at hfr
            subst hfr
            have e6 : u 6 = .slice (some ⟨g5, 0, none⟩) 2 k5 := Have.get (k := 6) hn rfl
            have e7 : u 7 = .int .i64 k := Have.get (k := 7) hn rfl
            simp only [e6, e7] at hK
            have HK := Lib.hid hK
            clear hK hn
            go_simp
            have h9 := HK.out
            revert h9
            clear HK
            go_simp
            try exact id
          refine Steps.cons ?_ ?_
          · refine FreeStep.val [] _ rfl rfl fun u β W hW hn fr hfr K hK => ?_
            simp only [frameL, putL, Act.put, List.setIfInBounds_toArray, List.set_cons_zero, List.set_cons_succ, Nat.zero_add, Nat.reduceAdd] at hfr
            subst hfr
            have e8 : u 8 = .pointer (some ⟨g5, k, none⟩) := Have.get (k := 8) hn rfl
            simp only [e8] at hK
            have c0 := cellL D5.out.1 hW
            have HK := Lib.hid hK
            clear hK hn
            go_simp
            have h9 := HK.out
            revert h9
            clear HK
            go_simp
            try exact id
          refine Steps.cons ?_ ?_
          · refine FreeStep.val [] _ rfl rfl fun u β W hW hn fr hfr K hK => ?_
            simp only [frameL, putL, Act.put, List.setIfInBounds_toArray, List.set_cons_zero, List.set_cons_succ, Nat.zero_add, Nat.reduceAdd] at hfr
            subst hfr
            have HK := Lib.hid hK
            clear hK hn
            go_simp
            have h9 := HK.out
            revert h9
            clear HK
            go_simp
            try exact id
          refine Steps.cons ?_ ?_
          · refine FreeStep.val [] _ rfl rfl fun u β W hW hn fr hfr K hK => ?_
            simp only [frameL, putL, Act.put, List.setIfInBounds_toArray, List.set_cons_zero, List.set_cons_succ, Nat.zero_add, Nat.reduceAdd] at hfr
            subst hfr
            have HK := Lib.hid hK
            clear hK hn
            go_simp
            have h9 := HK.out
            revert h9
            clear HK
            go_simp
            try exact id
          refine Steps.cons ?_ ?_
          · refine FreeStep.val [] _ rfl rfl fun u β W hW hn fr hfr K hK => ?_
            simp only [frameL, putL, Act.put, List.setIfInBounds_toArray, List.set_cons_zero, List.set_cons_succ, Nat.zero_add, Nat.reduceAdd] at hfr
            subst hfr
            have e11 : u 11 = .pointer (some ⟨B, 0, none⟩) := Have.get (k := 11) hn rfl
            simp only [e11] at hK
            have HK := Lib.hid hK
            clear hK hn
            go_simp
            have h9 := HK.out
            revert h9
            clear HK
            go_simp
            try exact id
          refine Steps.cons ?_ ?_
          · refine FreeStep.val [] _ rfl rfl fun u β W hW hn fr hfr K hK => ?_
            simp only [frameL, putL, Act.put, List.setIfInBounds_toArray, List.set_cons_zero, List.set_cons_succ, Nat.zero_add, Nat.reduceAdd] at hfr
            subst hfr
            have e12 : u 12 = .pointer (some ⟨B, 0, none⟩) := Have.get (k := 12) hn rfl
            simp only [e12] at hK
            have HK := Lib.hid hK
            clear hK hn
            go_simp
            have h9 := HK.out
            revert h9
            clear HK
            go_simp
            try exact id
          refine Steps.cons ?_ ?_
          · refine FreeStep.val [] _ rfl rfl fun u β W hW hn fr hfr K hK => ?_
            simp only [frameL, putL, Act.put, List.setIfInBounds_toArray, List.set_cons_zero, List.set_cons_succ, Nat.zero_add, Nat.reduceAdd] at hfr
            subst hfr
            have e13 : u 13 = .pointer (some ⟨B, 0, none⟩) := Have.get (k := 13) hn rfl
            simp only [e13] at hK
            obtain ⟨y0, y1, y2, y3, y4, y5, yl⟩ := id (X2.out.later hW).all6
            have HK := Lib.hid hK
            clear hK hn
            go_simp
            have h9 := HK.out
            revert h9
            clear HK
            go_simp
            try exact id
          refine Steps.cons ?_ ?_
          · refine FreeStep.calm [] _ rfl rfl fun u β W hW hn fr hfr K hK => ?_
            simp only [frameL, putL, Act.put, List.setIfInBounds_toArray, List.set_cons_zero, List.set_cons_succ, Nat.zero_add, Nat.reduceAdd] at hfr
            subst hfr
            have e9 : u 9 = .slice A8 lp k8 := Have.get (k := 9) hn rfl
            have e10 : u 10 = .int .i64 n := Have.get (k := 10) hn rfl
            have e14 : u 14 = .int .i64 S := Have.get (k := 14) hn rfl
            simp only [e9, e10, e14] at hK
            simp only [Act.put, List.setIfInBounds_toArray, List.set_cons_zero, List.set_cons_succ] at hK
            have Q := Lib.hid (QP.out W (HB2.out.trans (hW.mono HB2.out.size)))
            have HK := Lib.hid hK
            clear hK hn
            go_simp
            refine Q.out.mono ?_
            rintro e w9 ⟨rfl, hb9⟩
            have h9 := HK.out w9 hb9
            revert h9
            clear HK
            go_simp
            try exact id
          refine Steps.cons ?_ ?_
          · refine FreeStep.val [] _ rfl rfl fun u β W hW hn fr hfr K hK => ?_
            simp only [frameL, putL, Act.put, List.setIfInBounds_toArray, List.set_cons_zero, List.set_cons_succ, Nat.zero_add, Nat.reduceAdd] at hfr
            subst hfr
            have e15 : u 15 = .bool true := Have.get (k := 15) hn rfl
            simp only [e15] at hK
            have HK := Lib.hid hK
            clear hK hn
            go_simp
            have h9 := HK.out
            revert h9
            clear HK
            go_simp
            try exact id
          refine Steps.cons ?_ ?_
          · refine FreeStep.val [] _ rfl rfl fun u β W hW hn fr hfr K hK => ?_
            simp only [frameL, putL, Act.put, List.setIfInBounds_toArray, List.set_cons_zero, List.set_cons_succ, Nat.zero_add, Nat.reduceAdd] at hfr
            subst hfr
            have e16 : u 16 = .bool false := Have.get (k := 16) hn rfl
            simp only [e16] at hK
            have HK := Lib.hid hK
            clear hK hn
            go_simp
            have h9 := HK.out
            revert h9
            clear HK
            go_simp
            try exact id
          refine Steps.cons ?_ ?_
          · refine FreeStep.val [] _ rfl rfl fun u β W hW hn fr hfr K hK => ?_
            simp only [frameL, putL, Act.put, List.setIfInBounds_toArray, List.set_cons_zero, List.set_cons_succ, Nat.zero_add, Nat.reduceAdd] at hfr
            subst hfr
            have e17 : u 17 = .bool false := Have.get (k := 17) hn rfl
            simp only [e17] at hK
            have HK := Lib.hid hK
            clear hK hn
            go_simp
            have h9 := HK.out
            revert h9
            clear HK
            go_simp
            try exact id
          refine Steps.cons ?_ ?_
          · refine FreeStep.val [] _ rfl rfl fun u β W hW hn fr hfr K hK => ?_
            simp only [frameL, putL, Act.put, List.setIfInBounds_toArray, List.set_cons_zero, List.set_cons_succ, Nat.zero_add, Nat.reduceAdd] at hfr
            subst hfr
            have e18 : u 18 = .pointer (some ⟨B, 0, none⟩) := Have.get (k := 18) hn rfl
            have e17 : u 17 = .bool false := Have.get (k := 17) hn rfl
            simp only [e18, e17] at hK
            have HK := Lib.hid hK
            clear hK hn
            go_simp
            have h9 := HK.out
            revert h9
            clear HK
            go_simp
            try exact id
          refine Steps.cons ?_ ?_
          · refine FreeStep.val [] _ rfl rfl fun u β W hW hn fr hfr K hK => ?_
            simp only [frameL, putL, Act.put, List.setIfInBounds_toArray, List.set_cons_zero, List.set_cons_succ, Nat.zero_add, Nat.reduceAdd] at hfr
            subst hfr
            have e19 : u 19 = .pointer (some ⟨B, 0, none⟩) := Have.get (k := 19) hn rfl
            have e17 : u 17 = .bool false := Have.get (k := 17) hn rfl
            simp only [e19, e17] at hK
            have HK := Lib.hid hK
            clear hK hn
            go_simp
            have h9 := HK.out
            revert h9
            clear HK
            go_simp
            try exact id
          refine Steps.cons ?_ ?_
          · refine FreeStep.val [] _ rfl rfl fun u β W hW hn fr hfr K hK => ?_
            simp only [frameL, putL, Act.put, List.setIfInBounds_toArray, List.set_cons_zero, List.set_cons_succ, Nat.zero_add, Nat.reduceAdd] at hfr
            subst hfr
            have e20 : u 20 = .pointer (some ⟨B, 5, none⟩) := Have.get (k := 20) hn rfl
            have e17 : u 17 = .bool false := Have.get (k := 17) hn rfl
            simp only [e20, e17] at hK
            obtain ⟨y0, y1, y2, y3, y4, y5, yl⟩ := id (X2.out.later hW).all6
            have HK := Lib.hid hK
            clear hK hn
            go_simp
            have h9 := HK.out
            revert h9
            clear HK
            go_simp
            try exact id
          refine Steps.cons ?_ ?_
          · refine FreeStep.val [] _ rfl rfl fun u β W hW hn fr hfr K hK => ?_
            simp only [frameL, putL, Act.put, List.setIfInBounds_toArray, List.set_cons_zero, List.set_cons_succ, Nat.zero_add, Nat.reduceAdd] at hfr
            subst hfr
            have e17 : u 17 = .bool false := Have.get (k := 17) hn rfl
            simp only [e17] at hK
            have HK := Lib.hid hK
            clear hK hn
            go_simp
            have h9 := HK.out
            revert h9
            clear HK
            go_simp
            try exact id
          refine Steps.cons ?_ ?_
          · refine FreeStep.val [] _ rfl rfl fun u β W hW hn fr hfr K hK => ?_
            simp only [frameL, putL, Act.put, List.setIfInBounds_toArray, List.set_cons_zero, List.set_cons_succ, Nat.zero_add, Nat.reduceAdd] at hfr
            subst hfr
            have e21 : u 21 = .slice (some ⟨g4, 0, none⟩) n k4 := Have.get (k := 21) hn rfl
            have e22 : u 22 = .int .i64 s := Have.get (k := 22) hn rfl
            have e17 : u 17 = .bool false := Have.get (k := 17) hn rfl
            simp only [e21, e22, e17] at hK
            have HK := Lib.hid hK
            clear hK hn
            go_simp
            have h9 := HK.out
            revert h9
            clear HK
            go_simp
            try exact id
          refine Steps.cons ?_ ?_
          · refine FreeStep.val [] _ rfl rfl fun u β W hW hn fr hfr K hK => ?_
            simp only [frameL, putL, Act.put, List.setIfInBounds_toArray, List.set_cons_zero, List.set_cons_succ, Nat.zero_add, Nat.reduceAdd] at hfr
            subst hfr
            have e23 : u 23 = .pointer (some ⟨g4, s, none⟩) := Have.get (k := 23) hn rfl
            have e17 : u 17 = .bool false := Have.get (k := 17) hn rfl
            simp only [e23, e17] at hK
            have c0 := cellL D2.out.2.2 hW
            have HK := Lib.hid hK
            clear hK hn
            go_simp
            have h9 := HK.out
            revert h9
            clear HK
            go_simp
            try exact id
          refine Steps.cons ?_ ?_
          · refine FreeStep.val [] _ rfl rfl fun u β W hW hn fr hfr K hK => ?_
            simp only [frameL, putL, Act.put, List.setIfInBounds_toArray, List.set_cons_zero, List.set_cons_succ, Nat.zero_add, Nat.reduceAdd] at hfr
            subst hfr
            have e17 : u 17 = .bool false := Have.get (k := 17) hn rfl
            simp only [e17] at hK
            have HK := Lib.hid hK
            clear hK hn
            go_simp
            have h9 := HK.out
            revert h9
            clear HK
            go_simp
            try exact id
          refine Steps.cons ?_ ?_
          · refine FreeStep.val [] _ rfl rfl fun u β W hW hn fr hfr K hK => ?_
            simp only [frameL, putL, Act.put, List.setIfInBounds_toArray, List.set_cons_zero, List.set_cons_succ, Nat.zero_add, Nat.reduceAdd] at hfr
            subst hfr
            have e24 : u 24 = .slice (some ⟨g7, 0, none⟩) 2 k7 := Have.get (k := 24) hn rfl
            have e25 : u 25 = .int .i64 k := Have.get (k := 25) hn rfl
            have e17 : u 17 = .bool false := Have.get (k := 17) hn rfl
            simp only [e24, e25, e17] at hK
            have HK := Lib.hid hK
            clear hK hn
            go_simp
            have h9 := HK.out
            revert h9
            clear HK
            go_simp
            try exact id
          refine Steps.cons ?_ ?_
          · refine FreeStep.val [] _ rfl rfl fun u β W hW hn fr hfr K hK => ?_
            simp only [frameL, putL, Act.put, List.setIfInBounds_toArray, List.set_cons_zero, List.set_cons_succ, Nat.zero_add, Nat.reduceAdd] at hfr
            subst hfr
            have e26 : u 26 = .pointer (some ⟨g7, k, none⟩) := Have.get (k := 26) hn rfl
            have e17 : u 17 = .bool false := Have.get (k := 17) hn rfl
            simp only [e26, e17] at hK
            have c0 := cellL D5.out.2.2 hW
            have HK := Lib.hid hK
            clear hK hn
            go_simp
            have h9 := HK.out
            revert h9
            clear HK
            go_simp
            try exact id
          refine Steps.cons ?_ ?_
          · refine FreeStep.val [] _ rfl rfl fun u β W hW hn fr hfr K hK => ?_
            simp only [frameL, putL, Act.put, List.setIfInBounds_toArray, List.set_cons_zero, List.set_cons_succ, Nat.zero_add, Nat.reduceAdd] at hfr
            subst hfr
            have e17 : u 17 = .bool false := Have.get (k := 17) hn rfl
            simp only [e17] at hK
            have HK := Lib.hid hK
            clear hK hn
            go_simp
            have h9 := HK.out
            revert h9
            clear HK
            go_simp
            try exact id
          refine Steps.cons ?_ ?_
          · refine FreeStep.val [] _ rfl rfl fun u β W hW hn fr hfr K hK => ?_
            simp only [frameL, putL, Act.put, List.setIfInBounds_toArray, List.set_cons_zero, List.set_cons_succ, Nat.zero_add, Nat.reduceAdd] at hfr
            subst hfr
            have e28 : u 28 = .int .i64 n := Have.get (k := 28) hn rfl
            have e17 : u 17 = .bool false := Have.get (k := 17) hn rfl
            simp only [e28, e17] at hK
            have HK := Lib.hid hK
            clear hK hn
            go_simp
            have h9 := HK.out
            revert h9
            clear HK
            go_simp
            try exact id
          refine Steps.cons ?_ ?_
          · refine FreeStep.calm [] _ rfl rfl fun u β W hW hn fr hfr K hK => ?_
            simp only [frameL, putL, Act.put, List.setIfInBounds_toArray, List.set_cons_zero, List.set_cons_succ, Nat.zero_add, Nat.reduceAdd] at hfr
            subst hfr
            have e27 : u 27 = .slice A10 lq k10 := Have.get (k := 27) hn rfl
            have e29 : u 29 = .int .i64 ((n : Int) - 1) := Have.get (k := 29) hn rfl
            have e17 : u 17 = .bool false := Have.get (k := 17) hn rfl
            simp only [e27, e29, e17] at hK
            simp only [Act.put, List.setIfInBounds_toArray, List.set_cons_zero, List.set_cons_succ] at hK
            have Q := Lib.hid (QQ.out W (HB2.out.trans (hW.mono HB2.out.size)))
            have HK := Lib.hid hK
            clear hK hn
            go_simp
            refine Q.out.mono ?_
            rintro e w9 ⟨rfl, q9, hq9⟩
            have hb9 : Below W.heap.size W w9 := by rw [hq9]; exact below_drewN (Below.refl _ _) _
            clear hq9
            have h9 := HK.out w9 hb9
            revert h9
            clear HK
            go_simp
            try exact id
          refine Steps.cons ?_ ?_
          · refine FreeStep.val [] _ rfl rfl fun u β W hW hn fr hfr K hK => ?_
            simp only [frameL, putL, Act.put, List.setIfInBounds_toArray, List.set_cons_zero, List.set_cons_succ, Nat.zero_add, Nat.reduceAdd] at hfr
            subst hfr
            have e30 : u 30 = .bool true := Have.get (k := 30) hn rfl
            have e17 : u 17 = .bool false := Have.get (k := 17) hn rfl
            simp only [e30, e17] at hK
            have HK := Lib.hid hK
            clear hK hn
            go_simp
            have h9 := HK.out
            revert h9
            clear HK
            go_simp
            try exact id
          refine Steps.cons ?_ ?_
          · refine FreeStep.val [] _ rfl rfl fun u β W hW hn fr hfr K hK => ?_
            simp only [frameL, putL, Act.put, List.setIfInBounds_toArray, List.set_cons_zero, List.set_cons_succ, Nat.zero_add, Nat.reduceAdd] at hfr
            subst hfr
            have e17 : u 17 = .bool false := Have.get (k := 17) hn rfl
            have e31 : u 31 = .bool false := Have.get (k := 31) hn rfl
            simp only [e17, e31] at hK
            have HK := Lib.hid hK
            clear hK hn
            go_simp
            have h9 := HK.out
            revert h9
            clear HK
            go_simp
            try exact id
          refine Steps.cons ?_ ?_
          · refine FreeStep.val [] _ rfl rfl fun u β W hW hn fr hfr K hK => ?_
            simp only [frameL, putL, Act.put, List.setIfInBounds_toArray, List.set_cons_zero, List.set_cons_succ, Nat.zero_add, Nat.reduceAdd] at hfr
            subst hfr
            have e32 : u 32 = .bool false := Have.get (k := 32) hn rfl
            simp only [e32] at hK
            have HK := Lib.hid hK
            clear hK hn
            go_simp
            have h9 := HK.out
            revert h9
            clear HK
            go_simp
            try exact id
          refine Steps.cons ?_ ?_
          · refine FreeStep.val [] _ rfl rfl fun u β W hW hn fr hfr K hK => ?_
            simp only [frameL, putL, Act.put, List.setIfInBounds_toArray, List.set_cons_zero, List.set_cons_succ, Nat.zero_add, Nat.reduceAdd] at hfr
            subst hfr
            have e33 : u 33 = .bool false := Have.get (k := 33) hn rfl
            simp only [e33] at hK
            have HK := Lib.hid hK
            clear hK hn
            go_simp
            have h9 := HK.out
            revert h9
            clear HK
            go_simp
            try exact id
          refine Steps.cons ?_ ?_
          · refine FreeStep.val [] _ rfl rfl fun u β W hW hn fr hfr K hK => ?_
            simp only [frameL, putL, Act.put, List.setIfInBounds_toArray, List.set_cons_zero, List.set_cons_succ, Nat.zero_add, Nat.reduceAdd] at hfr
            subst hfr
            have e34 : u 34 = .pointer (some ⟨B, 0, none⟩) := Have.get (k := 34) hn rfl
            have e33 : u 33 = .bool false := Have.get (k := 33) hn rfl
            simp only [e34, e33] at hK
            have HK := Lib.hid hK
            clear hK hn
            go_simp
            have h9 := HK.out
            revert h9
            clear HK
            go_simp
            try exact id
          refine Steps.cons ?_ ?_
          · refine FreeStep.val [] _ rfl rfl fun u β W hW hn fr hfr K hK => ?_
            simp only [frameL, putL, Act.put, List.setIfInBounds_toArray, List.set_cons_zero, List.set_cons_succ, Nat.zero_add, Nat.reduceAdd] at hfr
            subst hfr
            have e35 : u 35 = .pointer (some ⟨B, 0, none⟩) := Have.get (k := 35) hn rfl
            have e33 : u 33 = .bool false := Have.get (k := 33) hn rfl
            simp only [e35, e33] at hK
            have HK := Lib.hid hK
            clear hK hn
            go_simp
            have h9 := HK.out
            revert h9
            clear HK
            go_simp
            try exact id
          refine Steps.cons ?_ ?_
          · refine FreeStep.val [] _ rfl rfl fun u β W hW hn fr hfr K hK => ?_
            simp only [frameL, putL, Act.put, List.setIfInBounds_toArray, List.set_cons_zero, List.set_cons_succ, Nat.zero_add, Nat.reduceAdd] at hfr
            subst hfr
            have e36 : u 36 = .pointer (some ⟨B, 4, none⟩) := Have.get (k := 36) hn rfl
            have e33 : u 33 = .bool false := Have.get (k := 33) hn rfl
            simp only [e36, e33] at hK
            obtain ⟨y0, y1, y2, y3, y4, y5, yl⟩ := id (X2.out.later hW).all6
            have HK := Lib.hid hK
            clear hK hn
            go_simp
            have h9 := HK.out
            revert h9
            clear HK
            go_simp
            try exact id
          refine Steps.cons ?_ ?_
          · refine FreeStep.val [] _ rfl rfl fun u β W hW hn fr hfr K hK => ?_
            simp only [frameL, putL, Act.put, List.setIfInBounds_toArray, List.set_cons_zero, List.set_cons_succ, Nat.zero_add, Nat.reduceAdd] at hfr
            subst hfr
            have e33 : u 33 = .bool false := Have.get (k := 33) hn rfl
            simp only [e33] at hK
            have HK := Lib.hid hK
            clear hK hn
            go_simp
            have h9 := HK.out
            revert h9
            clear HK
            go_simp
            try exact id
          refine Steps.cons ?_ ?_
          · refine FreeStep.val [] _ rfl rfl fun u β W hW hn fr hfr K hK => ?_
            simp only [frameL, putL, Act.put, List.setIfInBounds_toArray, List.set_cons_zero, List.set_cons_succ, Nat.zero_add, Nat.reduceAdd] at hfr
            subst hfr
            have e37 : u 37 = .slice (some ⟨g3, 0, none⟩) n k3 := Have.get (k := 37) hn rfl
            have e38 : u 38 = .int .i64 s := Have.get (k := 38) hn rfl
            have e33 : u 33 = .bool false := Have.get (k := 33) hn rfl
            simp only [e37, e38, e33] at hK
            have HK := Lib.hid hK
            clear hK hn
            go_simp
            have h9 := HK.out
            revert h9
            clear HK
            go_simp
            try exact id
          refine Steps.cons ?_ ?_
          · refine FreeStep.val [] _ rfl rfl fun u β W hW hn fr hfr K hK => ?_
            simp only [frameL, putL, Act.put, List.setIfInBounds_toArray, List.set_cons_zero, List.set_cons_succ, Nat.zero_add, Nat.reduceAdd] at hfr
            subst hfr
            have e39 : u 39 = .pointer (some ⟨g3, s, none⟩) := Have.get (k := 39) hn rfl
            have e33 : u 33 = .bool false := Have.get (k := 33) hn rfl
            simp only [e39, e33] at hK
            have c0 := cellL D2.out.2.1 hW
            have HK := Lib.hid hK
            clear hK hn
            go_simp
            have h9 := HK.out
            revert h9
            clear HK
            go_simp
            try exact id
          refine Steps.cons ?_ ?_
          · refine FreeStep.val [] _ rfl rfl fun u β W hW hn fr hfr K hK => ?_
            simp only [frameL, putL, Act.put, List.setIfInBounds_toArray, List.set_cons_zero, List.set_cons_succ, Nat.zero_add, Nat.reduceAdd] at hfr
            subst hfr
            have e33 : u 33 = .bool false := Have.get (k := 33) hn rfl
            simp only [e33] at hK
            have HK := Lib.hid hK
            clear hK hn
            go_simp
            have h9 := HK.out
            revert h9
            clear HK
            go_simp
            try exact id
          refine Steps.cons ?_ ?_
          · refine FreeStep.val [] _ rfl rfl fun u β W hW hn fr hfr K hK => ?_
            simp only [frameL, putL, Act.put, List.setIfInBounds_toArray, List.set_cons_zero, List.set_cons_succ, Nat.zero_add, Nat.reduceAdd] at hfr
            subst hfr
            have e40 : u 40 = .slice (some ⟨g6, 0, none⟩) 2 k6 := Have.get (k := 40) hn rfl
            have e41 : u 41 = .int .i64 k := Have.get (k := 41) hn rfl
            have e33 : u 33 = .bool false := Have.get (k := 33) hn rfl
            simp only [e40, e41, e33] at hK
            have HK := Lib.hid hK
            clear hK hn
            go_simp
            have h9 := HK.out
            revert h9
            clear HK
            go_simp
            try exact id
          refine Steps.cons ?_ ?_
          · refine FreeStep.val [] _ rfl rfl fun u β W hW hn fr hfr K hK => ?_
            simp only [frameL, putL, Act.put, List.setIfInBounds_toArray, List.set_cons_zero, List.set_cons_succ, Nat.zero_add, Nat.reduceAdd] at hfr
            subst hfr
            have e42 : u 42 = .pointer (some ⟨g6, k, none⟩) := Have.get (k := 42) hn rfl
            have e33 : u 33 = .bool false := Have.get (k := 33) hn rfl
            simp only [e42, e33] at hK
            have c0 := cellL D5.out.2.1 hW
            have HK := Lib.hid hK
            clear hK hn
            go_simp
            have h9 := HK.out
            revert h9
            clear HK
            go_simp
            try exact id
          refine Steps.cons ?_ ?_
          · refine FreeStep.val [] _ rfl rfl fun u β W hW hn fr hfr K hK => ?_
            simp only [frameL, putL, Act.put, List.setIfInBounds_toArray, List.set_cons_zero, List.set_cons_succ, Nat.zero_add, Nat.reduceAdd] at hfr
            subst hfr
            have e43 : u 43 = .slice A9 ll k9 := Have.get (k := 43) hn rfl
            have e33 : u 33 = .bool false := Have.get (k := 33) hn rfl
            simp only [e43, e33] at hK
            have HK := Lib.hid hK
            clear hK hn
            go_simp
            have h9 := HK.out
            revert h9
            clear HK
            go_simp
            try exact id
          refine Steps.cons ?_ ?_
          · refine FreeStep.val [] _ rfl rfl fun u β W hW hn fr hfr K hK => ?_
            simp only [frameL, putL, Act.put, List.setIfInBounds_toArray, List.set_cons_zero, List.set_cons_succ, Nat.zero_add, Nat.reduceAdd] at hfr
            subst hfr
            have e33 : u 33 = .bool false := Have.get (k := 33) hn rfl
            simp only [e33] at hK
            have HK := Lib.hid hK
            clear hK hn
            go_simp
            have h9 := HK.out
            revert h9
            clear HK
            go_simp
            try exact id
          refine Steps.cons ?_ ?_
          · refine FreeStep.val [] _ rfl rfl fun u β W hW hn fr hfr K hK => ?_
            simp only [frameL, putL, Act.put, List.setIfInBounds_toArray, List.set_cons_zero, List.set_cons_succ, Nat.zero_add, Nat.reduceAdd] at hfr
            subst hfr
            have e45 : u 45 = .pointer (some ⟨B, 0, none⟩) := Have.get (k := 45) hn rfl
            have e33 : u 33 = .bool false := Have.get (k := 33) hn rfl
            simp only [e45, e33] at hK
            have HK := Lib.hid hK
            clear hK hn
            go_simp
            have h9 := HK.out
            revert h9
            clear HK
            go_simp
            try exact id
          refine Steps.cons ?_ ?_
          · refine FreeStep.val [] _ rfl rfl fun u β W hW hn fr hfr K hK => ?_
            simp only [frameL, putL, Act.put, List.setIfInBounds_toArray, List.set_cons_zero, List.set_cons_succ, Nat.zero_add, Nat.reduceAdd] at hfr
            subst hfr
            have e46 : u 46 = .pointer (some ⟨B, 0, none⟩) := Have.get (k := 46) hn rfl
            have e33 : u 33 = .bool false := Have.get (k := 33) hn rfl
            simp only [e46, e33] at hK
            have HK := Lib.hid hK
            clear hK hn
            go_simp
            have h9 := HK.out
            revert h9
            clear HK
            go_simp
            try exact id
          refine Steps.cons ?_ ?_
          · refine FreeStep.val [] _ rfl rfl fun u β W hW hn fr hfr K hK => ?_
            simp only [frameL, putL, Act.put, List.setIfInBounds_toArray, List.set_cons_zero, List.set_cons_succ, Nat.zero_add, Nat.reduceAdd] at hfr
            subst hfr
            have e47 : u 47 = .pointer (some ⟨B, 0, none⟩) := Have.get (k := 47) hn rfl
            have e33 : u 33 = .bool false := Have.get (k := 33) hn rfl
            simp only [e47, e33] at hK
            obtain ⟨y0, y1, y2, y3, y4, y5, yl⟩ := id (X2.out.later hW).all6
            have HK := Lib.hid hK
            clear hK hn
            go_simp
            have h9 := HK.out
            revert h9
            clear HK
            go_simp
            try exact id
          refine Steps.cons ?_ ?_
          · refine FreeStep.val [] _ rfl rfl fun u β W hW hn fr hfr K hK => ?_
            simp only [frameL, putL, Act.put, List.setIfInBounds_toArray, List.set_cons_zero, List.set_cons_succ, Nat.zero_add, Nat.reduceAdd] at hfr
            subst hfr
            have e48 : u 48 = .int .i64 S := Have.get (k := 48) hn rfl
            have e33 : u 33 = .bool false := Have.get (k := 33) hn rfl
            simp only [e48, e33] at hK
            have HK := Lib.hid hK
            clear hK hn
            go_simp
            have h9 := HK.out
            revert h9
            clear HK
            go_simp
            try exact id
          refine Steps.cons ?_ ?_
          · refine FreeStep.val [] _ rfl rfl fun u β W hW hn fr hfr K hK => ?_
            simp only [frameL, putL, Act.put, List.setIfInBounds_toArray, List.set_cons_zero, List.set_cons_succ, Nat.zero_add, Nat.reduceAdd] at hfr
            subst hfr
            have e44 : u 44 = .int .i64 ll := Have.get (k := 44) hn rfl
            have e49 : u 49 = .int .i64 (S + 1) := Have.get (k := 49) hn rfl
            have e33 : u 33 = .bool false := Have.get (k := 33) hn rfl
            simp only [e44, e49, e33] at hK
            have HK := Lib.hid hK
            clear hK hn
            go_simp
            have h9 := HK.out
            revert h9
            clear HK
            go_simp
            try exact id
          refine Steps.cons ?_ ?_
          · refine FreeStep.val [] _ rfl rfl fun u β W hW hn fr hfr K hK => ?_
            simp only [frameL, putL, Act.put, List.setIfInBounds_toArray, List.set_cons_zero, List.set_cons_succ, Nat.zero_add, Nat.reduceAdd] at hfr
            subst hfr
            have e33 : u 33 = .bool false := Have.get (k := 33) hn rfl
            have e50 : u 50 = .bool true := Have.get (k := 50) hn rfl
            simp only [e33, e50] at hK
            have HK := Lib.hid hK
            clear hK hn
            go_simp
            have h9 := HK.out
            revert h9
            clear HK
            go_simp
            try exact id
          exact Steps.nil
        case tailR =>
          intro u_ β_ W hW hn hdis hbnd
          have z0 : u_ 0 = .pointer (some ⟨B, 0, none⟩) := Have.get (k := 0) hn rfl
          have z1 : u_ 1 = .pointer (some ⟨B, 0, none⟩) := Have.get (k := 1) hn rfl
          have z2 : u_ 2 = .pointer (some ⟨B, 3, none⟩) := Have.get (k := 2) hn rfl
          have z3 : u_ 3 = .slice (some ⟨g2, 0, none⟩) n k2 := Have.get (k := 3) hn rfl
          have z4 : u_ 4 = .int .i64 s := Have.get (k := 4) hn rfl
          have z5 : u_ 5 = .pointer (some ⟨g2, s, none⟩) := Have.get (k := 5) hn rfl
          have z6 : u_ 6 = .slice (some ⟨g5, 0, none⟩) 2 k5 := Have.get (k := 6) hn rfl
          have z7 : u_ 7 = .int .i64 k := Have.get (k := 7) hn rfl
          have z8 : u_ 8 = .pointer (some ⟨g5, k, none⟩) := Have.get (k := 8) hn rfl
          have z9 : u_ 9 = .slice A8 lp k8 := Have.get (k := 9) hn rfl
          have z10 : u_ 10 = .int .i64 n := Have.get (k := 10) hn rfl
          have z11 : u_ 11 = .pointer (some ⟨B, 0, none⟩) := Have.get (k := 11) hn rfl
          have z12 : u_ 12 = .pointer (some ⟨B, 0, none⟩) := Have.get (k := 12) hn rfl
          have z13 : u_ 13 = .pointer (some ⟨B, 0, none⟩) := Have.get (k := 13) hn rfl
          have z14 : u_ 14 = .int .i64 S := Have.get (k := 14) hn rfl
          have z15 : u_ 15 = .bool true := Have.get (k := 15) hn rfl
          have z16 : u_ 16 = .bool false := Have.get (k := 16) hn rfl
          have z17 : u_ 17 = .bool false := Have.get (k := 17) hn rfl
          have z18 : u_ 18 = .pointer (some ⟨B, 0, none⟩) := Have.get (k := 18) hn rfl
          have z19 : u_ 19 = .pointer (some ⟨B, 0, none⟩) := Have.get (k := 19) hn rfl
          have z20 : u_ 20 = .pointer (some ⟨B, 5, none⟩) := Have.get (k := 20) hn rfl
          have z21 : u_ 21 = .slice (some ⟨g4, 0, none⟩) n k4 := Have.get (k := 21) hn rfl
          have z22 : u_ 22 = .int .i64 s := Have.get (k := 22) hn rfl
          have z23 : u_ 23 = .pointer (some ⟨g4, s, none⟩) := Have.get (k := 23) hn rfl
          have z24 : u_ 24 = .slice (some ⟨g7, 0, none⟩) 2 k7 := Have.get (k := 24) hn rfl
          have z25 : u_ 25 = .int .i64 k := Have.get (k := 25) hn rfl
          have z26 : u_ 26 = .pointer (some ⟨g7, k, none⟩) := Have.get (k := 26) hn rfl
          have z27 : u_ 27 = .slice A10 lq k10 := Have.get (k := 27) hn rfl
          have z28 : u_ 28 = .int .i64 n := Have.get (k := 28) hn rfl
          have z29 : u_ 29 = .int .i64 ((n : Int) - 1) := Have.get (k := 29) hn rfl
          have z30 : u_ 30 = .bool true := Have.get (k := 30) hn rfl
          have z31 : u_ 31 = .bool false := Have.get (k := 31) hn rfl
          have z32 : u_ 32 = .bool false := Have.get (k := 32) hn rfl
          have z33 : u_ 33 = .bool false := Have.get (k := 33) hn rfl
          have z34 : u_ 34 = .pointer (some ⟨B, 0, none⟩) := Have.get (k := 34) hn rfl
          have z35 : u_ 35 = .pointer (some ⟨B, 0, none⟩) := Have.get (k := 35) hn rfl
          have z36 : u_ 36 = .pointer (some ⟨B, 4, none⟩) := Have.get (k := 36) hn rfl
          have z37 : u_ 37 = .slice (some ⟨g3, 0, none⟩) n k3 := Have.get (k := 37) hn rfl
          have z38 : u_ 38 = .int .i64 s := Have.get (k := 38) hn rfl
          have z39 : u_ 39 = .pointer (some ⟨g3, s, none⟩) := Have.get (k := 39) hn rfl
          have z40 : u_ 40 = .slice (some ⟨g6, 0, none⟩) 2 k6 := Have.get (k := 40) hn rfl
          have z41 : u_ 41 = .int .i64 k := Have.get (k := 41) hn rfl
          have z42 : u_ 42 = .pointer (some ⟨g6, k, none⟩) := Have.get (k := 42) hn rfl
          have z43 : u_ 43 = .slice A9 ll k9 := Have.get (k := 43) hn rfl
          have z44 : u_ 44 = .int .i64 ll := Have.get (k := 44) hn rfl
          have z45 : u_ 45 = .pointer (some ⟨B, 0, none⟩) := Have.get (k := 45) hn rfl
          have z46 : u_ 46 = .pointer (some ⟨B, 0, none⟩) := Have.get (k := 46) hn rfl
          have z47 : u_ 47 = .pointer (some ⟨B, 0, none⟩) := Have.get (k := 47) hn rfl
          have z48 : u_ 48 = .int .i64 S := Have.get (k := 48) hn rfl
          have z49 : u_ 49 = .int .i64 (S + 1) := Have.get (k := 49) hn rfl
          have z50 : u_ 50 = .bool true := Have.get (k := 50) hn rfl
          have z51 : u_ 51 = .bool true := Have.get (k := 51) hn rfl
          rw [← frameL_eq (by kernel_rfl)]
          clear hn hdis hbnd
          simp only [frameL, putL, Act.put, List.setIfInBounds_toArray, List.set_cons_zero, List.set_cons_succ, Nat.zero_add, Nat.reduceAdd, z0, z1, z2, z3, z4, z5, z6, z7, z8, z9, z10, z11, z12, z13, z14, z15, z16, z17, z18, z19, z20, z21, z22, z23, z24, z25, z26, z27, z28, z29, z30, z31, z32, z33, z34, z35, z36, z37, z38, z39, z40, z41, z42, z43, z44, z45, z46, z47, z48, z49, z50, z51]
          clear z0 z1 z2 z3 z4 z5 z6 z7 z8 z9 z10 z11 z12 z13 z14 z15 z16 z17 z18 z19 z20 z21 z22 z23 z24 z25 z26 z27 z28 z29 z30 z31 z32 z33 z34 z35 z36 z37 z38 z39 z40 z41 z42 z43 z44 z45 z46 z47 z48 z49 z50 z51
          have hBW := HB2.out.trans (hW.mono HB2.out.size)
          go_wp2
          go_ret
          exact ⟨by rw [hf.out]; rfl, hBW⟩
      case pos =>
      have HRR := Lib.hid (HRR.out kl)
      have e7 : ((ll : Int) != S + 1) = false := by simp; omega
      have e9 : decide ((ll : Int) = S + 1) = true := decide_eq_true kl
      rw [HRR.out] at HS2 HNO2
      clear HL HRR
      refine wp_region_free (by kernel_rfl) [
          .val [] (fun _ => .pointer (some ⟨B, 0, none⟩)),
          .val [] (fun _ => .pointer (some ⟨B, 0, none⟩)),
          .val [] (fun _ => .pointer (some ⟨B, 3, none⟩)),
          .val [] (fun _ => .slice (some ⟨g2, 0, none⟩) n k2),
          .val [] (fun _ => .int .i64 s),
          .val [] (fun _ => .pointer (some ⟨g2, s, none⟩)),
          .val [] (fun _ => .slice (some ⟨g5, 0, none⟩) 2 k5),
          .val [] (fun _ => .int .i64 k),
          .val [] (fun _ => .pointer (some ⟨g5, k, none⟩)),
          .val [] (fun _ => .slice A8 lp k8),
          .val [] (fun _ => .int .i64 n),
          .val [] (fun _ => .pointer (some ⟨B, 0, none⟩)),
          .val [] (fun _ => .pointer (some ⟨B, 0, none⟩)),
          .val [] (fun _ => .pointer (some ⟨B, 0, none⟩)),
          .val [] (fun _ => .int .i64 S),
          .val [] (fun _ => .bool true),
          .val [] (fun _ => .bool false),
          .val [] (fun _ => .bool false),
          .val [] (fun _ => .pointer (some ⟨B, 0, none⟩)),
          .val [] (fun _ => .pointer (some ⟨B, 0, none⟩)),
          .val [] (fun _ => .pointer (some ⟨B, 5, none⟩)),
          .val [] (fun _ => .slice (some ⟨g4, 0, none⟩) n k4),
          .val [] (fun _ => .int .i64 s),
          .val [] (fun _ => .pointer (some ⟨g4, s, none⟩)),
          .val [] (fun _ => .slice (some ⟨g7, 0, none⟩) 2 k7),
          .val [] (fun _ => .int .i64 k),
          .val [] (fun _ => .pointer (some ⟨g7, k, none⟩)),
          .val [] (fun _ => .slice A10 lq k10),
          .val [] (fun _ => .int .i64 n),
          .val [] (fun _ => .int .i64 ((n : Int) - 1)),
          .val [] (fun _ => .bool true),
          .val [] (fun _ => .bool false),
          .val [] (fun _ => .bool false),
          .val [] (fun _ => .bool false),
          .val [] (fun _ => .pointer (some ⟨B, 0, none⟩)),
          .val [] (fun _ => .pointer (some ⟨B, 0, none⟩)),
          .val [] (fun _ => .pointer (some ⟨B, 4, none⟩)),
          .val [] (fun _ => .slice (some ⟨g3, 0, none⟩) n k3),
          .val [] (fun _ => .int .i64 s),
          .val [] (fun _ => .pointer (some ⟨g3, s, none⟩)),
          .val [] (fun _ => .slice (some ⟨g6, 0, none⟩) 2 k6),
          .val [] (fun _ => .int .i64 k),
          .val [] (fun _ => .pointer (some ⟨g6, k, none⟩)),
          .val [] (fun _ => .slice A9 ll k9),
          .val [] (fun _ => .int .i64 ll),
          .val [] (fun _ => .pointer (some ⟨B, 0, none⟩)),
          .val [] (fun _ => .pointer (some ⟨B, 0, none⟩)),
          .val [] (fun _ => .pointer (some ⟨B, 0, none⟩)),
          .val [] (fun _ => .int .i64 S),
          .val [] (fun _ => .int .i64 (S + 1)),
          .val [] (fun _ => .bool false),
          .val [] (fun _ => .bool false)] ?hp ?hfw ?deps ?oks ?steps ?tailR
      case hp => kernel_rfl
      case hfw => kernel_rfl
      case deps => kernel_rfl
      case oks =>
        intro F hF
        simp only [List.mem_cons, List.not_mem_nil, or_false] at hF
        rcases hF with rfl | rfl | rfl | rfl | rfl | rfl | rfl | rfl | rfl | rfl | rfl | rfl | rfl | rfl | rfl | rfl | rfl | rfl | rfl | rfl | rfl | rfl | rfl | rfl | rfl | rfl | rfl | rfl | rfl | rfl | rfl | rfl | rfl | rfl | rfl | rfl | rfl | rfl | rfl | rfl | rfl | rfl | rfl | rfl | rfl | rfl | rfl | rfl | rfl | rfl | rfl | rfl
        · trivial
        · trivial
        · trivial
        · trivial
        · trivial
        · trivial
        · trivial
        · trivial
        · trivial
        · trivial
        · trivial
        · trivial
        · trivial
        · trivial
        · trivial
        · trivial
        · trivial
        · trivial
        · trivial
        · trivial
        · trivial
        · trivial
        · trivial
        · trivial
        · trivial
        · trivial
        · trivial
        · trivial
        · trivial
        · trivial
        · trivial
        · trivial
        · trivial
        · trivial
        · trivial
        · trivial
        · trivial
        · trivial
        · trivial
        · trivial
        · trivial
        · trivial
        · trivial
        · trivial
        · trivial
        · trivial
        · trivial
        · trivial
        · trivial
        · trivial
        · trivial
        · trivial
      case steps =>
        refine Steps.cons ?_ ?_
        · refine FreeStep.val [] _ rfl rfl fun u β W hW hn fr hfr K hK => ?_
          simp only [frameL, putL, Act.put, List.setIfInBounds_toArray, List.set_cons_zero, List.set_cons_succ, Nat.zero_add, Nat.reduceAdd] at hfr
          subst hfr
          have HK := Lib.hid hK
          clear hK hn
          go_simp
          have h9 := HK.out
          revert h9
          clear HK
          go_simp
          try exact id
        refine Steps.cons ?_ ?_
        · refine FreeStep.val [] _ rfl rfl fun u β W hW hn fr hfr K hK => ?_
          simp only [frameL, putL, Act.put, List.setIfInBounds_toArray, List.set_cons_zero, List.set_cons_succ, Nat.zero_add, Nat.reduceAdd] at hfr
          subst hfr
          have e0 : u 0 = .pointer (some ⟨B, 0, none⟩) := Have.get (k := 0) hn rfl
          simp only [e0] at hK
          have HK := Lib.hid hK
          clear hK hn
          go_simp
          have h9 := HK.out
          revert h9
          clear HK
          go_simp
          try exact id
        refine Steps.cons ?_ ?_
        · refine FreeStep.val [] _ rfl rfl fun u β W hW hn fr hfr K hK => ?_
          simp only [frameL, putL, Act.put, List.setIfInBounds_toArray, List.set_cons_zero, List.set_cons_succ, Nat.zero_add, Nat.reduceAdd] at hfr
          subst hfr
          have e1 : u 1 = .pointer (some ⟨B, 0, none⟩) := Have.get (k := 1) hn rfl
          simp only [e1] at hK
          have HK := Lib.hid hK
          clear hK hn
          go_simp
          have h9 := HK.out
          revert h9
          clear HK
          go_simp
          try exact id
        refine Steps.cons ?_ ?_
        · refine FreeStep.val [] _ rfl rfl fun u β W hW hn fr hfr K hK => ?_
          simp only [frameL, putL, Act.put, List.setIfInBounds_toArray, List.set_cons_zero, List.set_cons_succ, Nat.zero_add, Nat.reduceAdd] at hfr
          subst hfr
          have e2 : u 2 = .pointer (some ⟨B, 3, none⟩) := Have.get (k := 2) hn rfl
          simp only [e2] at hK
          obtain ⟨y0, y1, y2, y3, y4, y5, yl⟩ := id (X2.out.later hW).all6
          have HK := Lib.hid hK
          clear hK hn
          go_simp
          have h9 := HK.out
          revert h9
          clear HK
          go_simp
          try exact id
        refine Steps.cons ?_ ?_
        · refine FreeStep.val [] _ rfl rfl fun u β W hW hn fr hfr K hK => ?_
          simp only [frameL, putL, Act.put, List.setIfInBounds_toArray, List.set_cons_zero, List.set_cons_succ, Nat.zero_add, Nat.reduceAdd] at hfr
          subst hfr
          have HK := Lib.hid hK
          clear hK hn
          go_simp
          have h9 := HK.out
          revert h9
          clear HK
          go_simp
          try exact id
        refine Steps.cons ?_ ?_
        · refine FreeStep.val [] _ rfl rfl fun u β W hW hn fr hfr K hK => ?_
          simp only [frameL, putL, Act.put, List.setIfInBounds_toArray, List.set_cons_zero, List.set_cons_succ, Nat.zero_add, Nat.reduceAdd] at hfr
          subst hfr
          have e3 : u 3 = .slice (some ⟨g2, 0, none⟩) n k2 := Have.get (k := 3) hn rfl
          have e4 : u 4 = .int .i64 s := Have.get (k := 4) hn rfl
          simp only [e3, e4] at hK
          have HK := Lib.hid hK
          clear hK hn
          go_simp
          have h9 := HK.out
          revert h9
          clear HK
          go_simp
          try exact id
        refine Steps.cons ?_ ?_
        · refine FreeStep.val [] _ rfl rfl fun u β W hW hn fr hfr K hK => ?_
          simp only [frameL, putL, Act.put, List.setIfInBounds_toArray, List.set_cons_zero, List.set_cons_succ, Nat.zero_add, Nat.reduceAdd] at hfr
          subst hfr
          have e5 : u 5 = .pointer (some ⟨g2, s, none⟩) := Have.get (k := 5) hn rfl
          simp only [e5] at hK
          have c0 := cellL D2.out.1 hW
          have HK := Lib.hid hK
          clear hK hn
          go_simp
          have h9 := HK.out
          revert h9
          clear HK
          go_simp
          try exact id
        refine Steps.cons ?_ ?_
        · refine FreeStep.val [] _ rfl rfl fun u β W hW hn fr hfr K hK => ?_
          simp only [frameL, putL, Act.put, List.setIfInBounds_toArray, List.set_cons_zero, List.set_cons_succ, Nat.zero_add, Nat.reduceAdd] at hfr
          subst hfr
          have HK := Lib.hid hK
          clear hK hn
          go_simp
          have h9 := HK.out
          revert h9
          clear HK
          go_simp
          try exact id
        refine Steps.cons ?_ ?_
        · refine FreeStep.val [] _ rfl rfl fun u β W hW hn fr hfr K hK => ?_
          simp only [frameL, putL, Act.put, List.setIfInBounds_toArray, List.set_cons_zero, List.set_cons_succ, Nat.zero_add, Nat.reduceAdd] at hfr
          subst hfr
          have e6 : u 6 = .slice (some ⟨g5, 0, none⟩) 2 k5 := Have.get (k := 6) hn rfl
          have e7 : u 7 = .int .i64 k := Have.get (k := 7) hn rfl
          simp only [e6, e7] at hK
          have HK := Lib.hid hK
          clear hK hn
          go_simp
          have h9 := HK.out
          revert h9
          clear HK
          go_simp
          try exact id
        refine Steps.cons ?_ ?_
        · refine FreeStep.val [] _ rfl rfl fun u β W hW hn fr hfr K hK => ?_
          simp only [frameL, putL, Act.put, List.setIfInBounds_toArray, List.set_cons_zero, List.set_cons_succ, Nat.zero_add, Nat.reduceAdd] at hfr
          subst hfr
          have e8 : u 8 = .pointer (some ⟨g5, k, none⟩) := Have.get (k := 8) hn rfl
          simp only [e8] at hK
          have c0 := cellL D5.out.1 hW
          have HK := Lib.hid hK
          clear hK hn
          go_simp
          have h9 := HK.out
          revert h9
          clear HK
          go_simp
          try exact id
        refine Steps.cons ?_ ?_
        · refine FreeStep.val [] _ rfl rfl fun u β W hW hn fr hfr K hK => ?_
          simp only [frameL, putL, Act.put, List.setIfInBounds_toArray, List.set_cons_zero, List.set_cons_succ, Nat.zero_add, Nat.reduceAdd] at hfr
          subst hfr
          have HK := Lib.hid hK
          clear hK hn
          go_simp
          have h9 := HK.out
          revert h9
          clear HK
          go_simp
          try exact id
        refine Steps.cons ?_ ?_
        · refine FreeStep.val [] _ rfl rfl fun u β W hW hn fr hfr K hK => ?_
          simp only [frameL, putL, Act.put, List.setIfInBounds_toArray, List.set_cons_zero, List.set_cons_succ, Nat.zero_add, Nat.reduceAdd] at hfr
          subst hfr
          have HK := Lib.hid hK
          clear hK hn
          go_simp
          have h9 := HK.out
          revert h9
          clear HK
          go_simp
          try exact id
        refine Steps.cons ?_ ?_
        · refine FreeStep.val [] _ rfl rfl fun u β W hW hn fr hfr K hK => ?_
          simp only [frameL, putL, Act.put, List.setIfInBounds_toArray, List.set_cons_zero, List.set_cons_succ, Nat.zero_add, Nat.reduceAdd] at hfr
          subst hfr
          have e11 : u 11 = .pointer (some ⟨B, 0, none⟩) := Have.get (k := 11) hn rfl
          simp only [e11] at hK
          have HK := Lib.hid hK
          clear hK hn
          go_simp
          have h9 := HK.out
          revert h9
          clear HK
          go_simp
          try exact id
        refine Steps.cons ?_ ?_
        · refine FreeStep.val [] _ rfl rfl fun u β W hW hn fr hfr K hK => ?_
          simp only [frameL, putL, Act.put, List.setIfInBounds_toArray, List.set_cons_zero, List.set_cons_succ, Nat.zero_add, Nat.reduceAdd] at hfr
          subst hfr
          have e12 : u 12 = .pointer (some ⟨B, 0, none⟩) := Have.get (k := 12) hn rfl
          simp only [e12] at hK
          have HK := Lib.hid hK
          clear hK hn
          go_simp
          have h9 := HK.out
          revert h9
          clear HK
          go_simp
          try exact id
        refine Steps.cons ?_ ?_
        · refine FreeStep.val [] _ rfl rfl fun u β W hW hn fr hfr K hK => ?_
          simp only [frameL, putL, Act.put, List.setIfInBounds_toArray, List.set_cons_zero, List.set_cons_succ, Nat.zero_add, Nat.reduceAdd] at hfr
          subst hfr
          have e13 : u 13 = .pointer (some ⟨B, 0, none⟩) := Have.get (k := 13) hn rfl
          simp only [e13] at hK
          obtain ⟨y0, y1, y2, y3, y4, y5, yl⟩ := id (X2.out.later hW).all6
          have HK := Lib.hid hK
          clear hK hn
          go_simp
          have h9 := HK.out
          revert h9
          clear HK
          go_simp
          try exact id
        refine Steps.cons ?_ ?_
        · refine FreeStep.calm [] _ rfl rfl fun u β W hW hn fr hfr K hK => ?_
          simp only [frameL, putL, Act.put, List.setIfInBounds_toArray, List.set_cons_zero, List.set_cons_succ, Nat.zero_add, Nat.reduceAdd] at hfr
          subst hfr
          have e9 : u 9 = .slice A8 lp k8 := Have.get (k := 9) hn rfl
          have e10 : u 10 = .int .i64 n := Have.get (k := 10) hn rfl
          have e14 : u 14 = .int .i64 S := Have.get (k := 14) hn rfl
          simp only [e9, e10, e14] at hK
          simp only [Act.put, List.setIfInBounds_toArray, List.set_cons_zero, List.set_cons_succ] at hK
          have Q := Lib.hid (QP.out W (HB2.out.trans (hW.mono HB2.out.size)))
          have HK := Lib.hid hK
          clear hK hn
          go_simp
          refine Q.out.mono ?_
          rintro e w9 ⟨rfl, hb9⟩
          have h9 := HK.out w9 hb9
          revert h9
          clear HK
          go_simp
          try exact id
        refine Steps.cons ?_ ?_
        · refine FreeStep.val [] _ rfl rfl fun u β W hW hn fr hfr K hK => ?_
          simp only [frameL, putL, Act.put, List.setIfInBounds_toArray, List.set_cons_zero, List.set_cons_succ, Nat.zero_add, Nat.reduceAdd] at hfr
          subst hfr
          have e15 : u 15 = .bool true := Have.get (k := 15) hn rfl
          simp only [e15] at hK
          have HK := Lib.hid hK
          clear hK hn
          go_simp
          have h9 := HK.out
          revert h9
          clear HK
          go_simp
          try exact id
        refine Steps.cons ?_ ?_
        · refine FreeStep.val [] _ rfl rfl fun u β W hW hn fr hfr K hK => ?_
          simp only [frameL, putL, Act.put, List.setIfInBounds_toArray, List.set_cons_zero, List.set_cons_succ, Nat.zero_add, Nat.reduceAdd] at hfr
          subst hfr
          have e16 : u 16 = .bool false := Have.get (k := 16) hn rfl
          simp only [e16] at hK
          have HK := Lib.hid hK
          clear hK hn
          go_simp
          have h9 := HK.out
          revert h9
          clear HK
          go_simp
          try exact id
        refine Steps.cons ?_ ?_
        · refine FreeStep.val [] _ rfl rfl fun u β W hW hn fr hfr K hK => ?_
          simp only [frameL, putL, Act.put, List.setIfInBounds_toArray, List.set_cons_zero, List.set_cons_succ, Nat.zero_add, Nat.reduceAdd] at hfr
          subst hfr
          have e17 : u 17 = .bool false := Have.get (k := 17) hn rfl
          simp only [e17] at hK
          have HK := Lib.hid hK
          clear hK hn
          go_simp
          have h9 := HK.out
          revert h9
          clear HK
          go_simp
          try exact id
        refine Steps.cons ?_ ?_
        · refine FreeStep.val [] _ rfl rfl fun u β W hW hn fr hfr K hK => ?_
          simp only [frameL, putL, Act.put, List.setIfInBounds_toArray, List.set_cons_zero, List.set_cons_succ, Nat.zero_add, Nat.reduceAdd] at hfr
          subst hfr
          have e18 : u 18 = .pointer (some ⟨B, 0, none⟩) := Have.get (k := 18) hn rfl
          have e17 : u 17 = .bool false := Have.get (k := 17) hn rfl
          simp only [e18, e17] at hK
          have HK := Lib.hid hK
          clear hK hn
          go_simp
          have h9 := HK.out
          revert h9
          clear HK
          go_simp
          try exact id
        refine Steps.cons ?_ ?_
        · refine FreeStep.val [] _ rfl rfl fun u β W hW hn fr hfr K hK => ?_
          simp only [frameL, putL, Act.put, List.setIfInBounds_toArray, List.set_cons_zero, List.set_cons_succ, Nat.zero_add, Nat.reduceAdd] at hfr
          subst hfr
          have e19 : u 19 = .pointer (some ⟨B, 0, none⟩) := Have.get (k := 19) hn rfl
          have e17 : u 17 = .bool false := Have.get (k := 17) hn rfl
          simp only [e19, e17] at hK
          have HK := Lib.hid hK
          clear hK hn
          go_simp
          have h9 := HK.out
          revert h9
          clear HK
          go_simp
          try exact id
        refine Steps.cons ?_ ?_
        · refine FreeStep.val [] _ rfl rfl fun u β W hW hn fr hfr K hK => ?_
          simp only [frameL, putL, Act.put, List.setIfInBounds_toArray, List.set_cons_zero, List.set_cons_succ, Nat.zero_add, Nat.reduceAdd] at hfr
          subst hfr
          have e20 : u 20 = .pointer (some ⟨B, 5, none⟩) := Have.get (k := 20) hn rfl
          have e17 : u 17 = .bool false := Have.get (k := 17) hn rfl
          simp only [e20, e17] at hK
          obtain ⟨y0, y1, y2, y3, y4, y5, yl⟩ := id (X2.out.later hW).all6
          have HK := Lib.hid hK
          clear hK hn
          go_simp
          have h9 := HK.out
          revert h9
          clear HK
          go_simp
          try exact id
        refine Steps.cons ?_ ?_
        · refine FreeStep.val [] _ rfl rfl fun u β W hW hn fr hfr K hK => ?_
          simp only [frameL, putL, Act.put, List.setIfInBounds_toArray, List.set_cons_zero, List.set_cons_succ, Nat.zero_add, Nat.reduceAdd] at hfr
          subst hfr
          have e17 : u 17 = .bool false := Have.get (k := 17) hn rfl
          simp only [e17] at hK
          have HK := Lib.hid hK
          clear hK hn
          go_simp
          have h9 := HK.out
          revert h9
          clear HK
          go_simp
          try exact id
        refine Steps.cons ?_ ?_
        · refine FreeStep.val [] _ rfl rfl fun u β W hW hn fr hfr K hK => ?_
          simp only [frameL, putL, Act.put, List.setIfInBounds_toArray, List.set_cons_zero, List.set_cons_succ, Nat.zero_add, Nat.reduceAdd] at hfr
          subst hfr
          have e21 : u 21 = .slice (some ⟨g4, 0, none⟩) n k4 := Have.get (k := 21) hn rfl
          have e22 : u 22 = .int .i64 s := Have.get (k := 22) hn rfl
          have e17 : u 17 = .bool false := Have.get (k := 17) hn rfl
          simp only [e21, e22, e17] at hK
          have HK := Lib.hid hK
          clear hK hn
          go_simp
          have h9 := HK.out
          revert h9
          clear HK
          go_simp
          try exact id
        refine Steps.cons ?_ ?_
        · refine FreeStep.val [] _ rfl rfl fun u β W hW hn fr hfr K hK => ?_
          simp only [frameL, putL, Act.put, List.setIfInBounds_toArray, List.set_cons_zero, List.set_cons_succ, Nat.zero_add, Nat.reduceAdd] at hfr
          subst hfr
          have e23 : u 23 = .pointer (some ⟨g4, s, none⟩) := Have.get (k := 23) hn rfl
          have e17 : u 17 = .bool false := Have.get (k := 17) hn rfl
          simp only [e23, e17] at hK
          have c0 := cellL D2.out.2.2 hW
          have HK := Lib.hid hK
          clear hK hn
          go_simp
          have h9 := HK.out
          revert h9
          clear HK
          go_simp
          try exact id
        refine Steps.cons ?_ ?_
        · refine FreeStep.val [] _ rfl rfl fun u β W hW hn fr hfr K hK => ?_
          simp only [frameL, putL, Act.put, List.setIfInBounds_toArray, List.set_cons_zero, List.set_cons_succ, Nat.zero_add, Nat.reduceAdd] at hfr
          subst hfr
          have e17 : u 17 = .bool false := Have.get (k := 17) hn rfl
          simp only [e17] at hK
          have HK := Lib.hid hK
          clear hK hn
          go_simp
          have h9 := HK.out
          revert h9
          clear HK
          go_simp
          try exact id
        refine Steps.cons ?_ ?_
        · refine FreeStep.val [] _ rfl rfl fun u β W hW hn fr hfr K hK => ?_
          simp only [frameL, putL, Act.put, List.setIfInBounds_toArray, List.set_cons_zero, List.set_cons_succ, Nat.zero_add, Nat.reduceAdd] at hfr
          subst hfr
          have e24 : u 24 = .slice (some ⟨g7, 0, none⟩) 2 k7 := Have.get (k := 24) hn rfl
          have e25 : u 25 = .int .i64 k := Have.get (k := 25) hn rfl
          have e17 : u 17 = .bool false := Have.get (k := 17) hn rfl
          simp only [e24, e25, e17] at hK
          have HK := Lib.hid hK
          clear hK hn
          go_simp
          have h9 := HK.out
          revert h9
          clear HK
          go_simp
          try exact id
        refine Steps.cons ?_ ?_
        · refine FreeStep.val [] _ rfl rfl fun u β W hW hn fr hfr K hK => ?_
          simp only [frameL, putL, Act.put, List.setIfInBounds_toArray, List.set_cons_zero, List.set_cons_succ, Nat.zero_add, Nat.reduceAdd] at hfr
          subst hfr
          have e26 : u 26 = .pointer (some ⟨g7, k, none⟩) := Have.get (k := 26) hn rfl
          have e17 : u 17 = .bool false := Have.get (k := 17) hn rfl
          simp only [e26, e17] at hK
          have c0 := cellL D5.out.2.2 hW
          have HK := Lib.hid hK
          clear hK hn
          go_simp
          have h9 := HK.out
          revert h9
          clear HK
          go_simp
          try exact id
        refine Steps.cons ?_ ?_
        · refine FreeStep.val [] _ rfl rfl fun u β W hW hn fr hfr K hK => ?_
          simp only [frameL, putL, Act.put, List.setIfInBounds_toArray, List.set_cons_zero, List.set_cons_succ, Nat.zero_add, Nat.reduceAdd] at hfr
          subst hfr
          have e17 : u 17 = .bool false := Have.get (k := 17) hn rfl
          simp only [e17] at hK
          have HK := Lib.hid hK
          clear hK hn
          go_simp
          have h9 := HK.out
          revert h9
          clear HK
          go_simp
          try exact id
        refine Steps.cons ?_ ?_
        · refine FreeStep.val [] _ rfl rfl fun u β W hW hn fr hfr K hK => ?_
          simp only [frameL, putL, Act.put, List.setIfInBounds_toArray, List.set_cons_zero, List.set_cons_succ, Nat.zero_add, Nat.reduceAdd] at hfr
          subst hfr
          have e28 : u 28 = .int .i64 n := Have.get (k := 28) hn rfl
          have e17 : u 17 = .bool false := Have.get (k := 17) hn rfl
          simp only [e28, e17] at hK
          have HK := Lib.hid hK
          clear hK hn
          go_simp
          have h9 := HK.out
          revert h9
          clear HK
          go_simp
          try exact id
        refine Steps.cons ?_ ?_
        · refine FreeStep.calm [] _ rfl rfl fun u β W hW hn fr hfr K hK => ?_
          simp only [frameL, putL, Act.put, List.setIfInBounds_toArray, List.set_cons_zero, List.set_cons_succ, Nat.zero_add, Nat.reduceAdd] at hfr
          subst hfr
          have e27 : u 27 = .slice A10 lq k10 := Have.get (k := 27) hn rfl
          have e29 : u 29 = .int .i64 ((n : Int) - 1) := Have.get (k := 29) hn rfl
          have e17 : u 17 = .bool false := Have.get (k := 17) hn rfl
          simp only [e27, e29, e17] at hK
          simp only [Act.put, List.setIfInBounds_toArray, List.set_cons_zero, List.set_cons_succ] at hK
          have Q := Lib.hid (QQ.out W (HB2.out.trans (hW.mono HB2.out.size)))
          have HK := Lib.hid hK
          clear hK hn
          go_simp
          refine Q.out.mono ?_
          rintro e w9 ⟨rfl, q9, hq9⟩
          have hb9 : Below W.heap.size W w9 := by rw [hq9]; exact below_drewN (Below.refl _ _) _
          clear hq9
          have h9 := HK.out w9 hb9
          revert h9
          clear HK
          go_simp
          try exact id
        refine Steps.cons ?_ ?_
        · refine FreeStep.val [] _ rfl rfl fun u β W hW hn fr hfr K hK => ?_
          simp only [frameL, putL, Act.put, List.setIfInBounds_toArray, List.set_cons_zero, List.set_cons_succ, Nat.zero_add, Nat.reduceAdd] at hfr
          subst hfr
          have e30 : u 30 = .bool true := Have.get (k := 30) hn rfl
          have e17 : u 17 = .bool false := Have.get (k := 17) hn rfl
          simp only [e30, e17] at hK
          have HK := Lib.hid hK
          clear hK hn
          go_simp
          have h9 := HK.out
          revert h9
          clear HK
          go_simp
          try exact id
        refine Steps.cons ?_ ?_
        · refine FreeStep.val [] _ rfl rfl fun u β W hW hn fr hfr K hK => ?_
          simp only [frameL, putL, Act.put, List.setIfInBounds_toArray, List.set_cons_zero, List.set_cons_succ, Nat.zero_add, Nat.reduceAdd] at hfr
          subst hfr
          have e17 : u 17 = .bool false := Have.get (k := 17) hn rfl
          have e31 : u 31 = .bool false := Have.get (k := 31) hn rfl
          simp only [e17, e31] at hK
          have HK := Lib.hid hK
          clear hK hn
          go_simp
          have h9 := HK.out
          revert h9
          clear HK
          go_simp
          try exact id
        refine Steps.cons ?_ ?_
        · refine FreeStep.val [] _ rfl rfl fun u β W hW hn fr hfr K hK => ?_
          simp only [frameL, putL, Act.put, List.setIfInBounds_toArray, List.set_cons_zero, List.set_cons_succ, Nat.zero_add, Nat.reduceAdd] at hfr
          subst hfr
          have e32 : u 32 = .bool false := Have.get (k := 32) hn rfl
          simp only [e32] at hK
          have HK := Lib.hid hK
          clear hK hn
          go_simp
          have h9 := HK.out
          revert h9
          clear HK
          go_simp
          try exact id
        refine Steps.cons ?_ ?_
        · refine FreeStep.val [] _ rfl rfl fun u β W hW hn fr hfr K hK => ?_
          simp only [frameL, putL, Act.put, List.setIfInBounds_toArray, List.set_cons_zero, List.set_cons_succ, Nat.zero_add, Nat.reduceAdd] at hfr
          subst hfr
          have e33 : u 33 = .bool false := Have.get (k := 33) hn rfl
          simp only [e33] at hK
          have HK := Lib.hid hK
          clear hK hn
          go_simp
          have h9 := HK.out
          revert h9
          clear HK
          go_simp
          try exact id
        refine Steps.cons ?_ ?_
        · refine FreeStep.val [] _ rfl rfl fun u β W hW hn fr hfr K hK => ?_
          simp only [frameL, putL, Act.put, List.setIfInBounds_toArray, List.set_cons_zero, List.set_cons_succ, Nat.zero_add, Nat.reduceAdd] at hfr
          subst hfr
          have e34 : u 34 = .pointer (some ⟨B, 0, none⟩) := Have.get (k := 34) hn rfl
          have e33 : u 33 = .bool false := Have.get (k := 33) hn rfl
          simp only [e34, e33] at hK
          have HK := Lib.hid hK
          clear hK hn
          go_simp
          have h9 := HK.out
          revert h9
          clear HK
          go_simp
          try exact id
        refine Steps.cons ?_ ?_
        · refine FreeStep.val [] _ rfl rfl fun u β W hW hn fr hfr K hK => ?_
          simp only [frameL, putL, Act.put, List.setIfInBounds_toArray, List.set_cons_zero, List.set_cons_succ, Nat.zero_add, Nat.reduceAdd] at hfr
          subst hfr
          have e35 : u 35 = .pointer (some ⟨B, 0, none⟩) := Have.get (k := 35) hn rfl
          have e33 : u 33 = .bool false := Have.get (k := 33) hn rfl
          simp only [e35, e33] at hK
          have HK := Lib.hid hK
          clear hK hn
          go_simp
          have h9 := HK.out
          revert h9
          clear HK
          go_simp
          try exact id
        refine Steps.cons ?_ ?_
        · refine FreeStep.val [] _ rfl rfl fun u β W hW hn fr hfr K hK => ?_
          simp only [frameL, putL, Act.put, List.setIfInBounds_toArray, List.set_cons_zero, List.set_cons_succ, Nat.zero_add, Nat.reduceAdd] at hfr
          subst hfr
          have e36 : u 36 = .pointer (some ⟨B, 4, none⟩) := Have.get (k := 36) hn rfl
          have e33 : u 33 = .bool false := Have.get (k := 33) hn rfl
          simp only [e36, e33] at hK
          obtain ⟨y0, y1, y2, y3, y4, y5, yl⟩ := id (X2.out.later hW).all6
          have HK := Lib.hid hK
          clear hK hn
          go_simp
          have h9 := HK.out
          revert h9
          clear HK
          go_simp
          try exact id
        refine Steps.cons ?_ ?_
        · refine FreeStep.val [] _ rfl rfl fun u β W hW hn fr hfr K hK => ?_
          simp only [frameL, putL, Act.put, List.setIfInBounds_toArray, List.set_cons_zero, List.set_cons_succ, Nat.zero_add, Nat.reduceAdd] at hfr
          subst hfr
          have e33 : u 33 = .bool false := Have.get (k := 33) hn rfl
          simp only [e33] at hK
          have HK := Lib.hid hK
          clear hK hn
          go_simp
          have h9 := HK.out
          revert h9
          clear HK
          go_simp
          try exact id
        refine Steps.cons ?_ ?_
        · refine FreeStep.val [] _ rfl rfl fun u β W hW hn fr hfr K hK => ?_
          simp only [frameL, putL, Act.put, List.setIfInBounds_toArray, List.set_cons_zero, List.set_cons_succ, Nat.zero_add, Nat.reduceAdd] at hfr
          subst hfr
          have e37 : u 37 = .slice (some ⟨g3, 0, none⟩) n k3 := Have.get (k := 37) hn rfl
          have e38 : u 38 = .int .i64 s := Have.get (k := 38) hn rfl
          have e33 : u 33 = .bool false := Have.get (k := 33) hn rfl
          simp only [e37, e38, e33] at hK
          have HK := Lib.hid hK
          clear hK hn
          go_simp
          have h9 := HK.out
          revert h9
          clear HK
          go_simp
          try exact id
        refine Steps.cons ?_ ?_
        · refine FreeStep.val [] _ rfl rfl fun u β W hW hn fr hfr K hK => ?_
          simp only [frameL, putL, Act.put, List.setIfInBounds_toArray, List.set_cons_zero, List.set_cons_succ, Nat.zero_add, Nat.reduceAdd] at hfr
          subst hfr
          have e39 : u 39 = .pointer (some ⟨g3, s, none⟩) := Have.get (k := 39) hn rfl
          have e33 : u 33 = .bool false := Have.get (k := 33) hn rfl
          simp only [e39, e33] at hK
          have c0 := cellL D2.out.2.1 hW
          have HK := Lib.hid hK
          clear hK hn
          go_simp
          have h9 := HK.out
          revert h9
          clear HK
          go_simp
          try exact id
        refine Steps.cons ?_ ?_
        · refine FreeStep.val [] _ rfl rfl fun u β W hW hn fr hfr K hK => ?_
          simp only [frameL, putL, Act.put, List.setIfInBounds_toArray, List.set_cons_zero, List.set_cons_succ, Nat.zero_add, Nat.reduceAdd] at hfr
          subst hfr
          have e33 : u 33 = .bool false := Have.get (k := 33) hn rfl
          simp only [e33] at hK
          have HK := Lib.hid hK
          clear hK hn
          go_simp
          have h9 := HK.out
          revert h9
          clear HK
          go_simp
          try exact id
        refine Steps.cons ?_ ?_
        · refine FreeStep.val [] _ rfl rfl fun u β W hW hn fr hfr K hK => ?_
          simp only [frameL, putL, Act.put, List.setIfInBounds_toArray, List.set_cons_zero, List.set_cons_succ, Nat.zero_add, Nat.reduceAdd] at hfr
          subst hfr
          have e40 : u 40 = .slice (some ⟨g6, 0, none⟩) 2 k6 := Have.get (k := 40) hn rfl
          have e41 : u 41 = .int .i64 k := Have.get (k := 41) hn rfl
          have e33 : u 33 = .bool false := Have.get (k := 33) hn rfl
          simp only [e40, e41, e33] at hK
          have HK := Lib.hid hK
          clear hK hn
          go_simp
          have h9 := HK.out
          revert h9
          clear HK
          go_simp
          try exact id
        refine Steps.cons ?_ ?_
        · refine FreeStep.val [] _ rfl rfl fun u β W hW hn fr hfr K hK => ?_
          simp only [frameL, putL, Act.put, List.setIfInBounds_toArray, List.set_cons_zero, List.set_cons_succ, Nat.zero_add, Nat.reduceAdd] at hfr
          subst hfr
          have e42 : u 42 = .pointer (some ⟨g6, k, none⟩) := Have.get (k := 42) hn rfl
          have e33 : u 33 = .bool false := Have.get (k := 33) hn rfl
          simp only [e42, e33] at hK
          have c0 := cellL D5.out.2.1 hW
          have HK := Lib.hid hK
          clear hK hn
          go_simp
          have h9 := HK.out
          revert h9
          clear HK
          go_simp
          try exact id
        refine Steps.cons ?_ ?_
        · refine FreeStep.val [] _ rfl rfl fun u β W hW hn fr hfr K hK => ?_
          simp only [frameL, putL, Act.put, List.setIfInBounds_toArray, List.set_cons_zero, List.set_cons_succ, Nat.zero_add, Nat.reduceAdd] at hfr
          subst hfr
          have e43 : u 43 = .slice A9 ll k9 := Have.get (k := 43) hn rfl
          have e33 : u 33 = .bool false := Have.get (k := 33) hn rfl
          simp only [e43, e33] at hK
          have HK := Lib.hid hK
          clear hK hn
          go_simp
          have h9 := HK.out
          revert h9
          clear HK
          go_simp
          try exact id
        refine Steps.cons ?_ ?_
        · refine FreeStep.val [] _ rfl rfl fun u β W hW hn fr hfr K hK => ?_
          simp only [frameL, putL, Act.put, List.setIfInBounds_toArray, List.set_cons_zero, List.set_cons_succ, Nat.zero_add, Nat.reduceAdd] at hfr
          subst hfr
          have e33 : u 33 = .bool false := Have.get (k := 33) hn rfl
          simp only [e33] at hK
          have HK := Lib.hid hK
          clear hK hn
          go_simp
          have h9 := HK.out
          revert h9
          clear HK
          go_simp
          try exact id
        refine Steps.cons ?_ ?_
        · refine FreeStep.val [] _ rfl rfl fun u β W hW hn fr hfr K hK => ?_
          simp only [frameL, putL, Act.put, List.setIfInBounds_toArray, List.set_cons_zero, List.set_cons_succ, Nat.zero_add, Nat.reduceAdd] at hfr
          subst hfr
          have e45 : u 45 = .pointer (some ⟨B, 0, none⟩) := Have.get (k := 45) hn rfl
          have e33 : u 33 = .bool false := Have.get (k := 33) hn rfl
          simp only [e45, e33] at hK
          have HK := Lib.hid hK
          clear hK hn
          go_simp
          have h9 := HK.out
          revert h9
          clear HK
          go_simp
          try exact id
        refine Steps.cons ?_ ?_
        · refine FreeStep.val [] _ rfl rfl fun u β W hW hn fr hfr K hK => ?_
          simp only [frameL, putL, Act.put, List.setIfInBounds_toArray, List.set_cons_zero, List.set_cons_succ, Nat.zero_add, Nat.reduceAdd] at hfr
          subst hfr
          have e46 : u 46 = .pointer (some ⟨B, 0, none⟩) := Have.get (k := 46) hn rfl
          have e33 : u 33 = .bool false := Have.get (k := 33) hn rfl
          simp only [e46, e33] at hK
          have HK := Lib.hid hK
          clear hK hn
          go_simp
          have h9 := HK.out
          revert h9
          clear HK
          go_simp
          try exact id
        refine Steps.cons ?_ ?_
        · refine FreeStep.val [] _ rfl rfl fun u β W hW hn fr hfr K hK => ?_
          simp only [frameL, putL, Act.put, List.setIfInBounds_toArray, List.set_cons_zero, List.set_cons_succ, Nat.zero_add, Nat.reduceAdd] at hfr
          subst hfr
          have e47 : u 47 = .pointer (some ⟨B, 0, none⟩) := Have.get (k := 47) hn rfl
          have e33 : u 33 = .bool false := Have.get (k := 33) hn rfl
          simp only [e47, e33] at hK
          obtain ⟨y0, y1, y2, y3, y4, y5, yl⟩ := id (X2.out.later hW).all6
          have HK := Lib.hid hK
          clear hK hn
          go_simp
          have h9 := HK.out
          revert h9
          clear HK
          go_simp
          try exact id
        refine Steps.cons ?_ ?_
        · refine FreeStep.val [] _ rfl rfl fun u β W hW hn fr hfr K hK => ?_
          simp only [frameL, putL, Act.put, List.setIfInBounds_toArray, List.set_cons_zero, List.set_cons_succ, Nat.zero_add, Nat.reduceAdd] at hfr
          subst hfr
          have e48 : u 48 = .int .i64 S := Have.get (k := 48) hn rfl
          have e33 : u 33 = .bool false := Have.get (k := 33) hn rfl
          simp only [e48, e33] at hK
          have HK := Lib.hid hK
          clear hK hn
          go_simp
          have h9 := HK.out
          revert h9
          clear HK
          go_simp
          try exact id
        refine Steps.cons ?_ ?_
        · refine FreeStep.val [] _ rfl rfl fun u β W hW hn fr hfr K hK => ?_
          simp only [frameL, putL, Act.put, List.setIfInBounds_toArray, List.set_cons_zero, List.set_cons_succ, Nat.zero_add, Nat.reduceAdd] at hfr
          subst hfr
          have e44 : u 44 = .int .i64 ll := Have.get (k := 44) hn rfl
          have e49 : u 49 = .int .i64 (S + 1) := Have.get (k := 49) hn rfl
          have e33 : u 33 = .bool false := Have.get (k := 33) hn rfl
          simp only [e44, e49, e33] at hK
          have HK := Lib.hid hK
          clear hK hn
          go_simp
          have h9 := HK.out
          revert h9
          clear HK
          go_simp
          try exact id
        refine Steps.cons ?_ ?_
        · refine FreeStep.val [] _ rfl rfl fun u β W hW hn fr hfr K hK => ?_
          simp only [frameL, putL, Act.put, List.setIfInBounds_toArray, List.set_cons_zero, List.set_cons_succ, Nat.zero_add, Nat.reduceAdd] at hfr
          subst hfr
          have e33 : u 33 = .bool false := Have.get (k := 33) hn rfl
          have e50 : u 50 = .bool false := Have.get (k := 50) hn rfl
          simp only [e33, e50] at hK
          have HK := Lib.hid hK
          clear hK hn
          go_simp
          have h9 := HK.out
          revert h9
          clear HK
          go_simp
          try exact id
        exact Steps.nil
      case tailR =>
        intro u_ β_ W hW hn hdis hbnd
        have z0 : u_ 0 = .pointer (some ⟨B, 0, none⟩) := Have.get (k := 0) hn rfl
        have z1 : u_ 1 = .pointer (some ⟨B, 0, none⟩) := Have.get (k := 1) hn rfl
        have z2 : u_ 2 = .pointer (some ⟨B, 3, none⟩) := Have.get (k := 2) hn rfl
        have z3 : u_ 3 = .slice (some ⟨g2, 0, none⟩) n k2 := Have.get (k := 3) hn rfl
        have z4 : u_ 4 = .int .i64 s := Have.get (k := 4) hn rfl
        have z5 : u_ 5 = .pointer (some ⟨g2, s, none⟩) := Have.get (k := 5) hn rfl
        have z6 : u_ 6 = .slice (some ⟨g5, 0, none⟩) 2 k5 := Have.get (k := 6) hn rfl
        have z7 : u_ 7 = .int .i64 k := Have.get (k := 7) hn rfl
        have z8 : u_ 8 = .pointer (some ⟨g5, k, none⟩) := Have.get (k := 8) hn rfl
        have z9 : u_ 9 = .slice A8 lp k8 := Have.get (k := 9) hn rfl
        have z10 : u_ 10 = .int .i64 n := Have.get (k := 10) hn rfl
        have z11 : u_ 11 = .pointer (some ⟨B, 0, none⟩) := Have.get (k := 11) hn rfl
        have z12 : u_ 12 = .pointer (some ⟨B, 0, none⟩) := Have.get (k := 12) hn rfl
        have z13 : u_ 13 = .pointer (some ⟨B, 0, none⟩) := Have.get (k := 13) hn rfl
        have z14 : u_ 14 = .int .i64 S := Have.get (k := 14) hn rfl
        have z15 : u_ 15 = .bool true := Have.get (k := 15) hn rfl
        have z16 : u_ 16 = .bool false := Have.get (k := 16) hn rfl
        have z17 : u_ 17 = .bool false := Have.get (k := 17) hn rfl
        have z18 : u_ 18 = .pointer (some ⟨B, 0, none⟩) := Have.get (k := 18) hn rfl
        have z19 : u_ 19 = .pointer (some ⟨B, 0, none⟩) := Have.get (k := 19) hn rfl
        have z20 : u_ 20 = .pointer (some ⟨B, 5, none⟩) := Have.get (k := 20) hn rfl
        have z21 : u_ 21 = .slice (some ⟨g4, 0, none⟩) n k4 := Have.get (k := 21) hn rfl
        have z22 : u_ 22 = .int .i64 s := Have.get (k := 22) hn rfl
        have z23 : u_ 23 = .pointer (some ⟨g4, s, none⟩) := Have.get (k := 23) hn rfl
        have z24 : u_ 24 = .slice (some ⟨g7, 0, none⟩) 2 k7 := Have.get (k := 24) hn rfl
        have z25 : u_ 25 = .int .i64 k := Have.get (k := 25) hn rfl
        have z26 : u_ 26 = .pointer (some ⟨g7, k, none⟩) := Have.get (k := 26) hn rfl
        have z27 : u_ 27 = .slice A10 lq k10 := Have.get (k := 27) hn rfl
        have z28 : u_ 28 = .int .i64 n := Have.get (k := 28) hn rfl
        have z29 : u_ 29 = .int .i64 ((n : Int) - 1) := Have.get (k := 29) hn rfl
        have z30 : u_ 30 = .bool true := Have.get (k := 30) hn rfl
        have z31 : u_ 31 = .bool false := Have.get (k := 31) hn rfl
        have z32 : u_ 32 = .bool false := Have.get (k := 32) hn rfl
        have z33 : u_ 33 = .bool false := Have.get (k := 33) hn rfl
        have z34 : u_ 34 = .pointer (some ⟨B, 0, none⟩) := Have.get (k := 34) hn rfl
        have z35 : u_ 35 = .pointer (some ⟨B, 0, none⟩) := Have.get (k := 35) hn rfl
        have z36 : u_ 36 = .pointer (some ⟨B, 4, none⟩) := Have.get (k := 36) hn rfl
        have z37 : u_ 37 = .slice (some ⟨g3, 0, none⟩) n k3 := Have.get (k := 37) hn rfl
        have z38 : u_ 38 = .int .i64 s := Have.get (k := 38) hn rfl
        have z39 : u_ 39 = .pointer (some ⟨g3, s, none⟩) := Have.get (k := 39) hn rfl
        have z40 : u_ 40 = .slice (some ⟨g6, 0, none⟩) 2 k6 := Have.get (k := 40) hn rfl
        have z41 : u_ 41 = .int .i64 k := Have.get (k := 41) hn rfl
        have z42 : u_ 42 = .pointer (some ⟨g6, k, none⟩) := Have.get (k := 42) hn rfl
        have z43 : u_ 43 = .slice A9 ll k9 := Have.get (k := 43) hn rfl
        have z44 : u_ 44 = .int .i64 ll := Have.get (k := 44) hn rfl
        have z45 : u_ 45 = .pointer (some ⟨B, 0, none⟩) := Have.get (k := 45) hn rfl
        have z46 : u_ 46 = .pointer (some ⟨B, 0, none⟩) := Have.get (k := 46) hn rfl
        have z47 : u_ 47 = .pointer (some ⟨B, 0, none⟩) := Have.get (k := 47) hn rfl
        have z48 : u_ 48 = .int .i64 S := Have.get (k := 48) hn rfl
        have z49 : u_ 49 = .int .i64 (S + 1) := Have.get (k := 49) hn rfl
        have z50 : u_ 50 = .bool false := Have.get (k := 50) hn rfl
        have z51 : u_ 51 = .bool false := Have.get (k := 51) hn rfl
        rw [← frameL_eq (by kernel_rfl)]
        clear hn hdis hbnd
        simp only [frameL, putL, Act.put, List.setIfInBounds_toArray, List.set_cons_zero, List.set_cons_succ, Nat.zero_add, Nat.reduceAdd, z0, z1, z2, z3, z4, z5, z6, z7, z8, z9, z10, z11, z12, z13, z14, z15, z16, z17, z18, z19, z20, z21, z22, z23, z24, z25, z26, z27, z28, z29, z30, z31, z32, z33, z34, z35, z36, z37, z38, z39, z40, z41, z42, z43, z44, z45, z46, z47, z48, z49, z50, z51]
        clear z0 z1 z2 z3 z4 z5 z6 z7 z8 z9 z10 z11 z12 z13 z14 z15 z16 z17 z18 z19 z20 z21 z22 z23 z24 z25 z26 z27 z28 z29 z30 z31 z32 z33 z34 z35 z36 z37 z38 z39 z40 z41 z42 z43 z44 z45 z46 z47 z48 z49 z50 z51
        have hBW := HB2.out.trans (hW.mono HB2.out.size)
        clear kl e7 e9
        go_wp2
        generalize W = w2 at *
        clear hW QP QQ X2 D2 D5 HB2
        go_loopw [6] (fun i wr => ∃ x : Nat, x ≤ ll ∧ i = .int .i64 x ∧ Below w.heap.size w wr ∧ Hid ((r.take x).all (fun y => risB y n) = true)) (fun i _ => ll - (intOf i).toNat)
        case atStart => exact ⟨0, Nat.zero_le _, rfl, hBW, rfl⟩
        case round =>
          obtain ⟨x, hx, rfl, hB3, hU⟩ := hrel
          clear hBW
          have c2 := cellL C3.out hB3
          have c5 := cellL C6.out hB3
          obtain ⟨y0, y1, y2, y3, y4, y5, yl⟩ := id (HX.out.later hB3).all6
          by_cases hxl : x < ll
          case neg =>
            have e : x = ll := by omega
            have hnx : Hid (twoH n S cs rs ns' (k + 1) = true) := by
              show _ = _
              rw [HS2.out]
              have h := hU.out
              rw [e, KL.out, List.take_length] at h
              exact h
            clear hU HS2 HNO2 e
            go_wp2
            go_roundw
            case rel => exact ⟨k + 1, by omega, by go_num, hB3, hnx⟩
            case measure => simp [intOf]; omega
          case pos =>
          obtain ⟨z, hz⟩ : ∃ z, r[x]? = some z := ⟨_, List.getElem?_eq_getElem (by rw [← KL.out]; exact hxl)⟩
          obtain ⟨g8, _, u8, d8, hv8, hc8, hE8, hg8, _⟩ := E6.out.at_ (ints_ok _) hz
          simp only [Value.slice.injEq] at hv8
          obtain ⟨rfl, z8, rfl⟩ := hv8
          clear z8
          have QZ := Lib.hid (spec_rises (n : Int) wr (Br.out.2 z (List.mem_of_getElem? hz)) ((ints_ok _).later hE8 hB3))
          obtain ⟨A11, k11, rfl⟩ := RowE.slice hE8
          have c8 := cellL hc8 hB3
          obtain ⟨lz, hlz⟩ : ∃ x, x = z.length := ⟨_, rfl⟩
          rw [← hlz] at c8 QZ
          clear hlz hc8 hE8
          cases kz : risB z n with
          | false =>
            have hf := Lib.hid (HNO2.out (all_no (f := fun y => risB y n) hz kz))
            rw [kz] at QZ
            clear kz hz hU HS2 HNO2
            go_wp2_with fail
            refine QZ.out.mono ?_
            rintro e w' ⟨rfl, q9, rfl⟩
            go_wp2
            go_ret
            exact ⟨by rw [hf.out]; rfl, below_drewN hB3 _⟩
          | true =>
            have hnx := Lib.hid (all_snoc (f := fun y => risB y n) hz kz hU.out)
            rw [kz] at QZ
            clear kz hz hU HS2 HNO2
            go_wp2_with fail
            refine QZ.out.mono ?_
            rintro e w' ⟨rfl, q9, rfl⟩
            go_wp2
            go_roundw
            case rel => exact ⟨x + 1, by omega, by go_num, below_drewN hB3 _, hnx⟩
            case measure => simp [intOf]; omega
set_option maxHeartbeats 3200000 in
set_option maxRecDepth 100000 in
theorem spec_ValidChoices {base : Nat} {v : Value} {c : Ch} {bs : List Nat} (w : World) (hc : BdH c) (ha : ChE base w v c bs) :
    Calls Try.prog 8 #[v] w (SeenPost (.bool (okH c)) w) := by
  obtain ⟨v0, v1, v2, v3, v4, b0, b1, b2, b3, b4, rfl, h0, h1, h2, h3, h4, _, _⟩ := ha
  have hB : Below w.heap.size w (w.alloc (.cells #[.int .i64 c.stack, v0, v1, v2, v3, v4] 33)) := (Below.refl _ _).alloc (Nat.le_refl _) _
  have Q := Lib.hid (spec_l03Ok _ hc (Bx.new w 33 #[.int .i64 c.stack, v0, v1, v2, v3, v4]) ((ints_ok _).later h0 hB) ((bools_ok _).later h1 hB) ((push3_ok _).later h2 hB) ((ints4_ok _).later h3 hB) ((ints3_ok _).later h4 hB))
  obtain ⟨A0, k0, rfl⟩ := RowE.slice h0
  obtain ⟨A1, k1, rfl⟩ := RowE.slice h1
  obtain ⟨A2, k2, rfl⟩ := ManyE.slice h2
  obtain ⟨A3, k3, rfl⟩ := ManyE.slice h3
  obtain ⟨A4, k4, rfl⟩ := ManyE.slice h4
  generalize okH c = r at *
  clear h0 h1 h2 h3 h4
  go_enter Try.func8, Try.ntmps8
  go_wp2_with fail
  refine Q.out.mono ?_
  rintro e w' ⟨rfl, hb⟩
  go_wp2
  go_ret
  exact ⟨rfl, hB.trans (hb.mono hB.size)⟩
end Go.Proofs.Yticmekdfdilcpaa
