/- validMoveLists and ValidChoices of the program. -/
import Derived.Test.YticmekdfdilcpaaOkHM
import Derived.Test.YticmekdfdilcpaaCmpP
import Derived.Test.YticmekdfdilcpaaConcat
namespace Go.Proofs.Yticmekdfdilcpaa
open Go.RowKit
set_option linter.unusedVariables false

/-- Some values that read as lists. -/
def Vals (base : Nat) (w : World) (vs : List Value) (xs : List (List Int)) : Prop := vs.length = xs.length ∧ ∀ (j : Nat) u, vs[j]? = some u → ∃ x cs, xs[j]? = some x ∧ IntsE base w u x cs
theorem Vals.app {base : Nat} {w : World} {vs vs' : List Value} {xs xs' : List (List Int)} (h : Vals base w vs xs) (k : Vals base w vs' xs') : Vals base w (vs ++ vs') (xs ++ xs') := by
  refine ⟨by rw [List.length_append, List.length_append, h.1, k.1], fun j u hu => ?_⟩
  rcases Nat.lt_or_ge j vs.length with hj | hj
  · rw [List.getElem?_append_left hj] at hu
    obtain ⟨x, cs, hx, hE⟩ := h.2 j u hu
    exact ⟨x, cs, by rw [List.getElem?_append_left (by rw [← h.1]; exact hj)]; exact hx, hE⟩
  · rw [List.getElem?_append_right hj] at hu
    obtain ⟨x, cs, hx, hE⟩ := k.2 _ u hu
    exact ⟨x, cs, by rw [List.getElem?_append_right (by rw [← h.1]; exact hj), ← h.1]; exact hx, hE⟩
theorem Vals.one {base : Nat} {w : World} {vs : List Value} {xs : List (List Int)} (h : Vals base w vs xs) : ∀ u ∈ vs, u.oneCell' = true := fun u hu => by
  obtain ⟨j, hj⟩ := List.getElem?_of_mem hu
  obtain ⟨x, cs, _, hE⟩ := h.2 j u hj
  obtain ⟨A, k, rfl⟩ := RowE.slice hE
  rfl
theorem ints2_vals {base : Nat} {w : World} {v : Value} {xs : List (List Int)} {bs : List Nat} (h : Ints2E base w v xs bs) : ∃ vs, ReadsAs w v vs ∧ Vals base w vs xs := by
  obtain ⟨vs, bss, hrow, hbl, hall, _, _⟩ := h
  have hvl : vs.length = xs.length := by have := hrow.1; simpa using this
  refine ⟨vs, reads_of hrow, hvl, fun j u hu => ?_⟩
  have hj := (List.getElem?_eq_some_iff.1 hu).1
  have e1 : xs[j]? = some (xs[j]'(by omega)) := List.getElem?_eq_getElem (by omega)
  have e2 : bss[j]? = some (bss[j]'(by omega)) := List.getElem?_eq_getElem (by omega)
  exact ⟨_, _, e1, hall j _ u _ e1 hu e2⟩
theorem ReadsAs.form {w : World} {v : Value} {row : List Value} (h : ReadsAs w v row) : ∃ A k, v = .slice A row.length k := by
  rcases h with ⟨rfl, rfl⟩ | ⟨g, c, rfl, _, _⟩
  · exact ⟨_, _, rfl⟩
  · exact ⟨_, _, rfl⟩
theorem ReadsAs.form2 {w : World} {v : Value} {row : List Value} (h : ReadsAs w v row) : ∃ A m k, m = row.length ∧ v = .slice A m k := by
  rcases h with ⟨rfl, rfl⟩ | ⟨g, c, rfl, _, _⟩
  · exact ⟨_, _, _, rfl, rfl⟩
  · exact ⟨_, _, _, rfl, rfl⟩
theorem ReadsAs.get {w : World} {A : Option Addr} {n k : Nat} {row : List Value} (h : ReadsAs w (.slice A n k) row) {j : Nat} {u : Value} (hu : row[j]? = some u) : ∃ g, A = some ⟨g, 0, none⟩ ∧ w.cell? ⟨g, j, none⟩ = some u := by
  rcases h with ⟨_, rfl⟩ | ⟨g, c, he, _, hc⟩
  · simp at hu
  · injection he with e1 e2 e3
    have h1 := hc j u hu
    have e : (⟨g, 0, none⟩ : Addr).add j = ⟨g, j, none⟩ := by unfold Addr.add; split <;> simp_all
    rw [e] at h1
    exact ⟨g, e1, h1⟩
theorem stP_c {n st : Int} {cs : List (List (Int × Int))} {rs : List (List (List Int))} {ns : List (List Int)} (h : cs.all (fun p => risP p n st) = false) : stP n st cs rs ns = false := by rw [stP, h]; simp
theorem stP_r {n st : Int} {cs : List (List (Int × Int))} {rs : List (List (List Int))} {ns : List (List Int)} (h : rs.all (fun r => decide ((r.length : Int) = st + 1)) = false) : stP n st cs rs ns = false := by rw [stP, h]; simp
theorem stP_a {n st : Int} {cs : List (List (Int × Int))} {rs : List (List (List Int))} {ns : List (List Int)} (h : (ns ++ rs.flatten).all (fun x => risB x n) = false) : stP n st cs rs ns = false := by rw [stP, h]; simp
theorem risP_n1 {p : List (Int × Int)} {n st : Int} (h : p.all (pB n st) = false) : risP p n st = false := by rw [risP, h]; rfl
theorem risP_n2 {p : List (Int × Int)} {n st : Int} (h : upP p p.length = false) : risP p n st = false := by rw [risP, h]; simp
theorem risP_yes {p : List (Int × Int)} {n st : Int} (h1 : p.all (pB n st) = true) (h2 : upP p p.length = true) : risP p n st = true := by rw [risP, h1, h2]; rfl
theorem take_flat {α : Type} {xs : List (List α)} {k : Nat} {x : List α} (h : xs[k]? = some x) : (xs.take (k + 1)).flatten = (xs.take k).flatten ++ x := by
  rw [List.take_add_one, h]; simp
set_option maxHeartbeats 25600000 in
set_option maxRecDepth 100000 in
theorem impl_moves3 {base : Nat} (A0 A1 : Option Addr) (ns k0 n k1 g2 k2 g3 k3 g4 k4 s : Nat) (S : Int) (c : Ch) (b2 b3 b4 : List Nat) (cs : List (List (Int × Int))) (rs : List (List (List Int))) (ns' : List (List Int)) (w : World) (hc : BdH c)
    (h2 : Push3E base w (.slice (some ⟨g2, 0, none⟩) n k2) c.call b2) (h3 : Ints4E base w (.slice (some ⟨g3, 0, none⟩) n k3) c.ret b3) (h4 : Ints3E base w (.slice (some ⟨g4, 0, none⟩) n k4) c.inner b4) (hs : s < n) (hn : n ≤ 5) (hS : 1 ≤ S ∧ S ≤ 4)
    (hcs : c.call[s]? = some cs) (hrs : c.ret[s]? = some rs) (hns : c.inner[s]? = some ns') :
    Calls Try.prog 39 #[.agg #[.int .i64 S, .slice A0 ns k0, .slice A1 n k1, .slice (some ⟨g2, 0, none⟩) n k2, .slice (some ⟨g3, 0, none⟩) n k3, .slice (some ⟨g4, 0, none⟩) n k4], .int .i64 s] w (SeenPost (.bool (stP n S cs rs ns')) w) := by
  obtain ⟨g2', _, u2, d2, hv2, hc2, hE2, hg2, _⟩ := h2.at_ (push2_ok _) hcs
  obtain ⟨g3', _, u3, d3, hv3, hc3, hE3, hg3, _⟩ := h3.at_ (ints3_ok _) hrs
  obtain ⟨g4', _, u4, d4, hv4, hc4, hE4, hg4, _⟩ := h4.at_ (ints2_ok _) hns
  simp only [Value.slice.injEq, Option.some.injEq, Addr.mk.injEq, and_true] at hv2 hv3 hv4
  obtain ⟨rfl, z2, rfl⟩ := hv2
  obtain ⟨rfl, z3, rfl⟩ := hv3
  obtain ⟨rfl, z4, rfl⟩ := hv4
  clear z2 z3 z4
  have bcs := hc.call.2 cs (List.mem_of_getElem? hcs)
  have brs := hc.ret.2 rs (List.mem_of_getElem? hrs)
  have bns := hc.inner.2 ns' (List.mem_of_getElem? hns)
  have E2 := Lib.hid hE2
  have E3 := Lib.hid hE3
  have E4 := Lib.hid hE4
  obtain ⟨A5, k5, rfl⟩ := ManyE.slice hE2
  obtain ⟨A6, k6, rfl⟩ := ManyE.slice hE3
  obtain ⟨A7, k7, rfl⟩ := ManyE.slice hE4
  have Bcs := Lib.hid bcs
  have Brs := Lib.hid brs
  have Bns := Lib.hid bns
  have t2 : cs.length ≤ 1048576 := bcs.1
  have t3 : rs.length ≤ 1048576 := brs.1
  have t4 : ns'.length ≤ 1048576 := bns.1
  have hB0 : Below w.heap.size w (w.alloc (.cells #[.int .i64 S, .slice A0 ns k0, .slice A1 n k1, .slice (some ⟨g2, 0, none⟩) n k2, .slice (some ⟨g3, 0, none⟩) n k3, .slice (some ⟨g4, 0, none⟩) n k4] 33)) := (Below.refl _ _).alloc (Nat.le_refl _) _
  have hbx := Bx.new w 33 #[.int .i64 S, .slice A0 ns k0, .slice A1 n k1, .slice (some ⟨g2, 0, none⟩) n k2, .slice (some ⟨g3, 0, none⟩) n k3, .slice (some ⟨g4, 0, none⟩) n k4]
  have c2 := cellL hc2 hB0
  have c3 := cellL hc3 hB0
  have c4 := cellL hc4 hB0
  obtain ⟨lc, hlc⟩ : ∃ x, x = cs.length := ⟨_, rfl⟩
  obtain ⟨lr, hlr⟩ : ∃ x, x = rs.length := ⟨_, rfl⟩
  obtain ⟨li, hli⟩ : ∃ x, x = ns'.length := ⟨_, rfl⟩
  have hst : stP n S cs rs ns' = (decide (lc = 2) && (decide (lr = 2) && (decide (li = 2) && (cs.all (fun p => risP p n S) && (rs.all (fun r => decide ((r.length : Int) = S + 1)) && (ns' ++ rs.flatten).all (fun x => risB x n)))))) := by rw [hlc, hlr, hli]; rfl
  obtain ⟨rr, hrr⟩ : ∃ r, r = stP n S cs rs ns' := ⟨_, rfl⟩
  rw [← hrr] at hst ⊢
  have HC := Lib.hid (fun h => hrr.trans (stP_c (n := n) (st := S) (cs := cs) (rs := rs) (ns := ns') h))
  have HRS := Lib.hid (fun h => hrr.trans (stP_r (n := n) (st := S) (cs := cs) (rs := rs) (ns := ns') h))
  have HAA := Lib.hid (fun h => hrr.trans (stP_a (n := n) (st := S) (cs := cs) (rs := rs) (ns := ns') h))
  rw [← hlc] at c2 E2 t2
  rw [← hlr] at c3 E3 t3
  rw [← hli] at c4 E4 t4
  have KC := Lib.hid hlc
  have KR := Lib.hid hlr
  have KI := Lib.hid hli
  have HB0 := Lib.hid hB0
  have HX := Lib.hid hbx
  have Hst := Lib.hid hst
  obtain ⟨y0, y1, y2, y3, y4, y5, yl⟩ := id hbx.all6
  obtain ⟨W0, hW0⟩ : ∃ W, W = w.alloc (.cells #[.int .i64 S, .slice A0 ns k0, .slice A1 n k1, .slice (some ⟨g2, 0, none⟩) n k2, .slice (some ⟨g3, 0, none⟩) n k3, .slice (some ⟨g4, 0, none⟩) n k4] 33) := ⟨_, rfl⟩
  rw [← hW0] at HB0 HX y0 y1 y2 y3 y4 y5 yl c2 c3 c4
  have HW0 := Lib.hid hW0
  clear hlc hlr hli hst hrr hcs hrs hns hE2 hE3 hE4 bcs brs bns hc2 hc3 hc4 hbx hB0 h2 h3 h4 hW0 hg2 hg3 hg4
  go_enter Try.func39, Try.ntmps39
  go_upto_region 1 with fail
  rw [← HW0.out]
  clear HW0
  go_wp2_with fail
  go_quiet (fail)
  obtain ⟨W1, hW1⟩ : ∃ W, W = W0.drewN nq := ⟨_, rfl⟩
  have hb1 : Below W0.heap.size W0 W1 := by rw [hW1]; exact below_drewN (Below.refl _ _) nq
  rw [← hW1]
  clear hW1 y0 y1 y2 y3 y4 y5 yl c2 c3 c4
  by_cases f1 : lc = 2
  case neg =>
    have hf := Lib.hid (show rr = false by rw [Hst.out]; simp [f1])
    have e7 : ((lc : Int) != 2) = true := by simp; omega
    have e8 : (lc != 2) = true := by simpa using f1
    have e9 : decide ((lc : Int) = 2) = false := decide_eq_false (by omega)
    clear HC HRS HAA Hst KC KR KI E2 E3 E4 Bcs Brs Bns HX f1
    go_wp2
    go_ret
    exact ⟨by rw [hf.out]; rfl, HB0.out.trans (hb1.mono HB0.out.size)⟩
  rw [f1] at KC E2
  by_cases f2 : lr = 2
  case neg =>
    have hf := Lib.hid (show rr = false by rw [Hst.out]; simp [f2])
    have e7 : ((lr : Int) != 2) = true := by simp; omega
    have e8 : (lr != 2) = true := by simpa using f2
    have e9 : decide ((lr : Int) = 2) = false := decide_eq_false (by omega)
    clear HC HRS HAA Hst KC KR KI E2 E3 E4 Bcs Brs Bns HX f2
    go_wp2
    go_ret
    exact ⟨by rw [hf.out]; rfl, HB0.out.trans (hb1.mono HB0.out.size)⟩
  rw [f2] at KR E3
  by_cases f3 : li = 2
  case neg =>
    have hf := Lib.hid (show rr = false by rw [Hst.out]; simp [f3])
    have e7 : ((li : Int) != 2) = true := by simp; omega
    have e8 : (li != 2) = true := by simpa using f3
    have e9 : decide ((li : Int) = 2) = false := decide_eq_false (by omega)
    clear HC HRS HAA Hst KC KR KI E2 E3 E4 Bcs Brs Bns HX f3
    go_wp2
    go_ret
    exact ⟨by rw [hf.out]; rfl, HB0.out.trans (hb1.mono HB0.out.size)⟩
  rw [f3] at KI E4
  have hrr : rr = (cs.all (fun p => risP p n S) && (rs.all (fun r => decide ((r.length : Int) = S + 1)) && (ns' ++ rs.flatten).all (fun x => risB x n))) := by rw [Hst.out]; simp [f1, f2, f3]
  have HRR := Lib.hid hrr
  obtain ⟨vs0, hR0, hV0⟩ := ints2_vals E4.out
  clear hrr Hst E4 t2 t3 t4
  subst f1 f2 f3
  have hl0 : vs0.length = 2 := by rw [hV0.1, ← KI.out]
  have HR0 := Lib.hid hR0
  have HV0 := Lib.hid hV0
  have HL0 := Lib.hid hl0
  clear hR0 hV0 hl0
  go_wp2
  go_loopw [49] (fun i wr => ∃ k : Nat, k ≤ 2 ∧ i = .int .i64 k ∧ Below W0.heap.size W0 wr ∧ Hid ((cs.take k).all (fun p => risP p n S) = true)) (fun i _ => 2 - (intOf i).toNat)
  case atStart => exact ⟨0, by omega, rfl, hb1, rfl⟩
  case round =>
    obtain ⟨k, hk, rfl, hB2, hU⟩ := hrel
    clear hb1
    have hbw := HB0.out.trans (hB2.mono HB0.out.size)
    by_cases hk2 : k < 2
    case pos =>
      obtain ⟨p, hp⟩ : ∃ x, cs[k]? = some x := ⟨_, List.getElem?_eq_getElem (by rw [← KC.out]; exact hk2)⟩
      obtain ⟨g5, _, u5, d5, hv5, hc5, hE5, hg5, _⟩ := E2.out.at_ (push_ok _) hp
      simp only [Value.slice.injEq] at hv5
      obtain ⟨rfl, z5, rfl⟩ := hv5
      clear z5
      have bp := Bcs.out.2 p (List.mem_of_getElem? hp)
      have QP := Lib.hid (impl_pushes (n : Int) S wr bp ((push_ok _).later hE5 hbw))
      have QI := Lib.hid (fun (W : World) (hW : Below wr.heap.size wr W) => impl_incrP W bp ((push_ok _).later hE5 (hbw.trans (hW.mono hbw.size))))
      obtain ⟨A8, k8, rfl⟩ := RowE.slice hE5
      have c5 := cellL hc5 hbw
      obtain ⟨lp, hlp⟩ : ∃ x, x = p.length := ⟨_, rfl⟩
      have P1 := Lib.hid (@risP_n1 p n S)
      have P2 := Lib.hid (@risP_n2 p n S)
      have P3 := Lib.hid (@risP_yes p n S)
      rw [← hlp] at c5 QP QI P2 P3
      have bx := HX.out.later hB2
      obtain ⟨y0, y1, y2, y3, y4, y5, yl⟩ := id bx.all6
      have Hbw := Lib.hid hbw
      have HB2 := Lib.hid hB2
      have HNO := Lib.hid (fun h => HC.out (all_no (f := fun p => risP p n S) hp h))
      have HYE := Lib.hid (fun h => all_snoc (f := fun p => risP p n S) hp h hU.out)
      clear hlp hp hE5 bp hc5 hU hbw hB2 bx HC HRS HAA
      obtain ⟨b1, hb1⟩ : ∃ b, b = p.all (pB n S) := ⟨_, rfl⟩
      obtain ⟨b2, hb2⟩ : ∃ b, b = upP p lp := ⟨_, rfl⟩
      rw [← hb1] at QP P1 P3
      rw [← hb2] at QI P2 P3
      clear hb1 hb2
      cases b1 with
      | false =>
        have hf := Lib.hid (HNO.out (P1.out rfl))
        clear P1 P2 P3 HNO HYE QI
        go_wp2_with fail
        refine QP.out.mono ?_
        rintro e w' ⟨rfl, hb⟩
        go_wp2
        go_ret
        exact ⟨by rw [hf.out]; rfl, Hbw.out.trans (hb.mono Hbw.out.size)⟩
      | true =>
        cases b2 with
        | false =>
          have hf := Lib.hid (HNO.out (P2.out rfl))
          clear P1 P2 P3 HNO HYE
          go_wp2_with fail
          refine QP.out.mono ?_
          rintro e w1 ⟨rfl, hb⟩
          go_wp2_with fail
          refine (QI.out _ hb).mono ?_
          rintro e w' ⟨rfl, hb'⟩
          go_wp2
          go_ret
          exact ⟨by rw [hf.out]; rfl, Hbw.out.trans ((hb.trans (hb'.mono hb.size)).mono Hbw.out.size)⟩
        | true =>
          have hnx := Lib.hid (HYE.out (P3.out rfl rfl))
          clear P1 P2 P3 HNO HYE
          go_wp2_with fail
          refine QP.out.mono ?_
          rintro e w1 ⟨rfl, hb⟩
          go_wp2_with fail
          refine (QI.out _ hb).mono ?_
          rintro e w' ⟨rfl, hb'⟩
          go_wp2
          go_roundw
          case rel => exact ⟨k + 1, by omega, by go_num, HB2.out.trans ((hb.trans (hb'.mono hb.size)).mono HB2.out.size), hnx⟩
          case measure => simp [intOf]; omega
    case neg =>
    have e : k = 2 := by omega
    subst e
    have hcall : cs.all (fun p => risP p n S) = true := by
      have h := hU.out
      rw [KC.out, List.take_length] at h
      exact h
    have hrr := HRR.out
    rw [hcall, Bool.true_and] at hrr
    have HR2 := Lib.hid hrr
    clear hcall hrr HRR hU HC hk hk2
    have HR0' := Lib.hid (HR0.out.later hbw)
    go_wp2
    generalize wr = wo at *
    go_loopw [11, 68] (fun v i wr => ∃ k : Nat, k ≤ 2 ∧ i = .int .i64 k ∧ (∃ vs, ReadsAs wr v vs ∧ Vals base w vs (ns' ++ (rs.take k).flatten) ∧ vs.length ≤ 2 + k * 5) ∧ Below W0.heap.size W0 wr ∧ Hid ((rs.take k).all (fun r => decide ((r.length : Int) = S + 1)) = true)) (fun _ i _ => 2 - (intOf i).toNat)
    case atStart => exact ⟨0, by omega, rfl, ⟨vs0, HR0'.out, by rw [List.take_zero, List.flatten_nil, List.append_nil]; exact HV0.out, by rw [HL0.out]; omega⟩, hB2, rfl⟩
    case round =>
      obtain ⟨k, hk, rfl, ⟨vs, hR, hV, hvl⟩, hB3, hU⟩ := hrel
      obtain ⟨A11, m, k11, hm', rfl⟩ := hR.form2
      clear hbw hB2 HR0 HV0 HL0 HR0'
      have hbw := HB0.out.trans (hB3.mono HB0.out.size)
      by_cases hk2 : k < 2
      case pos =>
        obtain ⟨r, hr⟩ : ∃ x, rs[k]? = some x := ⟨_, List.getElem?_eq_getElem (by rw [← KR.out]; exact hk2)⟩
        obtain ⟨g6, _, u6, d6, hv6, hc6, hE6, hg6, _⟩ := E3.out.at_ (ints2_ok _) hr
        simp only [Value.slice.injEq] at hv6
        obtain ⟨rfl, z6, rfl⟩ := hv6
        clear z6
        have br := Brs.out.2 r (List.mem_of_getElem? hr)
        obtain ⟨vr, hRr, hVr⟩ := ints2_vals hE6
        obtain ⟨A9, k9, rfl⟩ := ManyE.slice hE6
        have c6 := cellL hc6 hbw
        have tr : r.length ≤ 1048576 := br.1
        have hRr' := hRr.later hbw
        have hvrl := hVr.1
        have hsn := Lib.hid (fun h => all_snoc (f := fun r => decide ((r.length : Int) = S + 1)) hr h hU.out)
        have hnl := Lib.hid (fun h => HRS.out (all_no (f := fun r => decide ((r.length : Int) = S + 1)) hr h))
        have htk := take_flat hr
        have hVn := hV.app hVr
        rw [List.append_assoc, ← htk] at hVn
        obtain ⟨ll, hll⟩ : ∃ x, x = r.length := ⟨_, rfl⟩
        rw [← hll] at c6 tr hRr' hvrl hsn hnl
        have ews : IntKind.i64.wrap (S + 1) = S + 1 := IntWalk.i64_in _ (by omega)
        obtain ⟨y0, y1, y2, y3, y4, y5, yl⟩ := id (HX.out.later hB3).all6
        clear hll hr hE6 br hc6 hU htk hRr
        by_cases kl : (ll : Int) = S + 1
        case neg =>
          have hf := Lib.hid (hnl.out (decide_eq_false kl))
          have e7 : ((ll : Int) != S + 1) = true := by simp; omega
          have e9 : decide ((ll : Int) = S + 1) = false := decide_eq_false kl
          clear hsn hnl hR hV hVr hVn hRr' hvrl
          go_wp2
          go_ret
          exact ⟨by rw [hf.out]; rfl, hbw⟩
        case pos =>
        have hnx := Lib.hid (hsn.out (decide_eq_true kl))
        have e7 : ((ll : Int) != S + 1) = false := by simp; omega
        have e9 : decide ((ll : Int) = S + 1) = true := decide_eq_true kl
        have hal := (Below.refl wr.heap.size wr).alloc (Nat.le_refl _) (.cells #[.slice A11 m k11, .slice A9 ll k9] 38)
        have hbl := Bx.new wr 38 #[.slice A11 m k11, .slice A9 ll k9]
        have Q := Lib.hid (concat_ints2 (b := wr.heap.size) (k := 2) (c := 2) [.slice A11 m k11, .slice A9 ll k9] [vs, vr] (wr.alloc (.cells #[.slice A11 m k11, .slice A9 ll k9] 38)) (by omega) rfl rfl hbl.lt (by
          intro j u hu
          match j, hu with
          | 0, hu => simp at hu; subst hu; exact hbl.cell 0 _ rfl
          | 1, hu => simp at hu; subst hu; exact hbl.cell 1 _ rfl
          | j + 2, hu => simp at hu) (by
          intro j u r hu hr
          match j, hu, hr with
          | 0, hu, hr => simp at hu hr; subst hu hr; exact hR.later hal
          | 1, hu, hr => simp at hu hr; subst hu hr; exact hRr'.later hal
          | j + 2, hu, hr => simp at hu) (by
          intro r hr u hu
          simp only [List.mem_cons, List.not_mem_nil, or_false] at hr
          rcases hr with rfl | rfl
          · exact hV.one u hu
          · exact hVr.one u hu) (by simp; omega))
        have hfl : [vs, vr].flatten = vs ++ vr := by simp
        rw [hfl] at Q
        have HVN := Lib.hid hVn
        have HLN := Lib.hid (show (vs ++ vr).length ≤ 2 + (k + 1) * 5 by rw [List.length_append]; omega)
        have HAL := Lib.hid (hB3.trans (hal.mono hB3.size))
        clear hsn hnl hR hV hVr hVn hRr' hvrl hal hbl hfl hm' hvl kl
        go_wp2_with fail
        refine Q.out.mono ?_
        rintro e w9 ⟨v9, rfl, ho9, hb9⟩
        have hR9 := reads_of ho9
        obtain ⟨A12, k12, rfl⟩ := hR9.form
        have hB9 := HAL.out.trans (hb9.mono HAL.out.size)
        have H9 := Lib.hid (And.intro hR9 hB9)
        clear hR9 hB9 ho9 hb9 HAL
        go_wp2
        go_roundw
        case rel =>
          refine ⟨_, _, _, _, _, _, _, _, _, _, _, _, _, _, _, _, _, _, ?_, rfl⟩
          exact ⟨k + 1, by omega, by go_num, ⟨_, by have h := H9.out.1; rw [List.length_append] at h; exact h, HVN.out, HLN.out⟩, H9.out.2, hnx⟩
        case measure => simp [intOf]; omega
      case neg =>
      have e : k = 2 := by omega
      subst e
      have hra : rs.all (fun r => decide ((r.length : Int) = S + 1)) = true := by
        have h := hU.out
        rw [KR.out, List.take_length] at h
        exact h
      have hV2 : Vals base w vs (ns' ++ rs.flatten) := by
        have h := hV
        rw [KR.out, List.take_length] at h
        exact h
      have hrr := HR2.out
      rw [hra, Bool.true_and] at hrr
      have HR3 := Lib.hid hrr
      have HV2 := Lib.hid hV2
      have HR := Lib.hid hR
      have hm := hV2.1
      rw [← hm'] at hm hvl
      have HM := Lib.hid hm
      have Hm := Lib.hid hm'
      have HB3 := Lib.hid (And.intro hB3 hbw)
      obtain ⟨L, hL⟩ : ∃ L, L = ns' ++ rs.flatten := ⟨_, rfl⟩
      rw [← hL] at HR3 HV2 HM HAA
      have HLb := Lib.hid (show ∀ x ∈ L, Bd1 x from by
        intro x hx
        rw [hL] at hx
        rcases List.mem_append.1 hx with h | h
        · exact Bns.out.2 x h
        · obtain ⟨y, hy, hx2⟩ := List.mem_flatten.1 h
          exact (Brs.out.2 y hy).2 x hx2)
      clear hra hrr HR2 hU hV hV2 hR hm hm' hB3 hbw hL HRS
      go_wp2
      generalize wr = wp at *
      go_loopw [85] (fun i wr => ∃ x : Nat, x ≤ m ∧ i = .int .i64 x ∧ Below wp.heap.size wp wr ∧ Hid ((L.take x).all (fun y => risB y n) = true)) (fun i _ => m - (intOf i).toNat)
      case atStart => exact ⟨0, by omega, rfl, Below.refl _ _, rfl⟩
      case round =>
        obtain ⟨x, hx, rfl, hB4, hU⟩ := hrel
        by_cases hxm : x < m
        case neg =>
          have e : x = m := by omega
          have hf : Hid (rr = true) := by
            show _ = _
            have h := hU.out
            rw [e, HM.out, List.take_length] at h
            rw [HR3.out, h]
          have hfin := Lib.hid (HB3.out.2.trans (hB4.mono HB3.out.2.size))
          clear hU HR3 HAA e
          go_wp2
          go_ret
          exact ⟨by rw [hf.out]; rfl, hfin.out⟩
        case pos =>
        obtain ⟨u, hu⟩ : ∃ u, vs[x]? = some u := ⟨_, List.getElem?_eq_getElem (by rw [← Hm.out]; exact hxm)⟩
        obtain ⟨z, zs, hz, hE⟩ := HV2.out.2 x u hu
        obtain ⟨g7, rfl, hc7⟩ := HR.out.get hu
        have hfin := HB3.out.2.trans (hB4.mono HB3.out.2.size)
        have QZ := Lib.hid (impl_numbers (n : Int) wr (HLb.out z (List.mem_of_getElem? hz)) ((ints_ok _).later hE hfin))
        obtain ⟨A13, k13, rfl⟩ := RowE.slice hE
        have c7 := cellL hc7 hB4
        obtain ⟨lz, hlz⟩ : ∃ x, x = z.length := ⟨_, rfl⟩
        rw [← hlz] at c7 QZ
        have Hfin := Lib.hid (And.intro hfin hB4)
        clear hlz hE hc7 hu hfin hB4
        cases kz : risB z n with
        | false =>
          have hf := Lib.hid (HAA.out (all_no (f := fun y => risB y n) hz kz))
          rw [kz] at QZ
          clear kz hz hU HR3 HAA
          go_wp2_with fail
          refine QZ.out.mono ?_
          rintro e w' ⟨rfl, q9, rfl⟩
          go_wp2
          go_ret
          exact ⟨by rw [hf.out]; rfl, below_drewN Hfin.out.1 _⟩
        | true =>
          have hnx := Lib.hid (all_snoc (f := fun y => risB y n) hz kz hU.out)
          rw [kz] at QZ
          clear kz hz hU HR3 HAA
          go_wp2_with fail
          refine QZ.out.mono ?_
          rintro e w' ⟨rfl, q9, rfl⟩
          go_wp2
          go_roundw
          case rel =>
            refine ⟨_, _, _, _, _, _, _, _, _, _, _, ?_, rfl⟩
            exact ⟨x + 1, by omega, by go_num, below_drewN Hfin.out.2 _, hnx⟩
          case measure => simp [intOf]; omega
end Go.Proofs.Yticmekdfdilcpaa
