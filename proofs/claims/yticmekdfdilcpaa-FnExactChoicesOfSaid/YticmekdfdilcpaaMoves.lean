/- validMoves of the program. -/
import Derived.Test.YticmekdfdilcpaaBelow
import Derived.BigQuiet
import Derived.Deep.QuietTactic
namespace Go.Proofs.Yticmekdfdilcpaa
open Go.RowKit
set_option linter.unusedVariables false

def pB (n stack : Int) (p : Int × Int) : Bool := inB p.1 n && inB p.2 stack
def mvB (n stack : Int) (cs : List (Int × Int)) (rs : List (List Int)) (ns : List Int) : Bool :=
  decide (cs.length = 2) && (decide (rs.length = 2) && (decide (ns.length = 2) && (cs.all (pB n stack) && ((rs.all fun r => listB r (stack + 1) n) && allB ns n))))

theorem all_snoc {α : Type} {f : α → Bool} {xs : List α} {k : Nat} {x : α} (hx : xs[k]? = some x) (h : f x = true) (hk : (xs.take k).all f = true) : (xs.take (k + 1)).all f = true := by
  rw [List.take_add_one, hx, List.all_append, hk]
  simp [h]
theorem all_no {α : Type} {f : α → Bool} {xs : List α} {k : Nat} {x : α} (hx : xs[k]? = some x) (h : f x = false) : xs.all f = false := by
  rw [List.all_eq_false]
  exact ⟨x, List.mem_of_getElem? hx, by simp [h]⟩

theorem impl_count (a b : Int) (A B R I : Option Addr) (n ka nb kb nr kr ni ki : Nat) (w : World) :
    Calls Try.prog 53 #[.agg #[.int .i64 a, .int .i64 b, .slice A n ka, .slice B nb kb, .slice R nr kr, .slice I ni ki]] w fun e w' => e = .returned (.int .i64 (n : Int)) ∧ Below w.heap.size w w' := by
  have hB := (Below.refl w.heap.size w).alloc (Nat.le_refl _) (.cells #[.int .i64 a, .int .i64 b, .slice A n ka, .slice B nb kb, .slice R nr kr, .slice I ni ki] 46)
  go_enter Try.func53, Try.ntmps53
  go_wp2
  go_ret
  exact ⟨rfl, hB⟩

set_option maxHeartbeats 6400000 in
set_option maxRecDepth 100000 in
theorem impl_pushes {base : Nat} {v : Value} {xs : List (Int × Int)} {bs : List Nat} (m stack : Int) (w : World) (hn : Bd1 xs) (ha : PushE base w v xs bs) :
    Calls Try.prog 92 #[v, .int .i64 m, .int .i64 stack] w fun e w' => e = .returned (.bool (xs.all (pB m stack))) ∧ Below w.heap.size w w' := by
  obtain ⟨A, ca, rfl⟩ := RowE.slice ha
  unfold Bd1 at hn
  obtain ⟨n, hn'⟩ : ∃ n, n = xs.length := ⟨_, rfl⟩
  have Hn := Lib.hid hn'
  rw [← hn'] at ha hn ⊢
  clear hn'
  go_enter Try.func92, Try.ntmps92
  go_wp2
  go_loopw [11] (fun i wr => ∃ k : Nat, k ≤ n ∧ i = .int .i64 k ∧ Hid ((xs.take k).all (pB m stack) = true) ∧ Below w.heap.size w wr) (fun i _ => n - (intOf i).toNat)
  case atStart => exact ⟨0, by omega, rfl, rfl, Below.refl _ _⟩
  case round =>
    obtain ⟨k, hk, rfl, hA, hB⟩ := hrel
    by_cases hk2 : k < n
    · have hkx : k < xs.length := by rw [← Hn.out]; exact hk2
      obtain ⟨x, hx⟩ : ∃ x, xs[k]? = some x := ⟨_, List.getElem?_eq_getElem hkx⟩
      have hE := (push_ok _).later ha hB
      obtain ⟨gA, rfl, hgA, _⟩ := RowE.head hE (j := k) hkx
      have x1 := (PushE.cell' hE hx).1
      have x2 := (PushE.cell' hE hx).2
      have hsz := hB.size
      have hBa := fun o => hB.alloc hsz (.cells o 97)
      have HBa := Lib.hid hBa
      obtain ⟨p1, p2⟩ := x
      dsimp only at x1 x2
      have qa := fun W => impl_below (x := p1) (n := m) W
      have qb := fun W => impl_below (x := p2) (n := stack) W
      have hno : pB m stack (p1, p2) = false → xs.all (pB m stack) = false := fun h => all_no hx h
      have hyes : pB m stack (p1, p2) = true → (xs.take (k + 1)).all (pB m stack) = true := fun h => all_snoc hx h hA.out
      have Hno := Lib.hid hno
      have Hyes := Lib.hid hyes
      clear hx hE hBa hno hyes hkx
      cases kA : inB p1 m with
      | false =>
        have hf := Lib.hid (Hno.out (by simp [pB, kA]))
        rw [kA] at qa
        have QA := Lib.hid qa
        clear qa qb kA Hno Hyes
        go_wp2_with (go_at_call 99; refine (QA.out _).mono ?_; rintro e w' ⟨rfl, rfl⟩)
        go_ret
        exact ⟨by rw [hf.out]; rfl, HBa.out _⟩
      | true =>
        rw [kA] at qa
        have QA := Lib.hid qa
        cases kC : inB p2 stack with
        | false =>
          have hf := Lib.hid (Hno.out (by simp [pB, kC]))
          rw [kC] at qb
          have QB := Lib.hid qb
          clear qa qb kA kC Hno Hyes
          go_wp2_with fail
          refine (QA.out _).mono ?_
          rintro e w' ⟨rfl, rfl⟩
          go_wp2_with fail
          refine (QB.out _).mono ?_
          rintro e w' ⟨rfl, rfl⟩
          go_wp2
          go_ret
          exact ⟨by rw [hf.out]; rfl, HBa.out _⟩
        | true =>
          have hk3 := Lib.hid (Hyes.out (by simp [pB, kA, kC]))
          rw [kC] at qb
          have QB := Lib.hid qb
          clear qa qb kA kC Hno Hyes
          go_wp2_with fail
          refine (QA.out _).mono ?_
          rintro e w' ⟨rfl, rfl⟩
          go_wp2_with fail
          refine (QB.out _).mono ?_
          rintro e w' ⟨rfl, rfl⟩
          go_wp2
          go_roundw
          case rel => exact ⟨k + 1, by omega, by go_num, hk3, HBa.out _⟩
          case measure => simp [intOf]; omega
    · have e : k = n := by omega
      subst e
      have hAll : Hid (xs.all (pB m stack) = true) := by
        have h1 := hA.out
        rwa [Hn.out, List.take_length] at h1
      clear hA
      go_wp2
      go_ret
      exact ⟨by rw [hAll.out]; rfl, hB⟩

set_option maxHeartbeats 6400000 in
set_option maxRecDepth 100000 in
theorem impl_moves {base : Nat} (A B R I : Option Addr) (n ka kb kr ki s : Nat) (stack start : Int) (ca : List (List (Int × Int))) (re : List (List (List Int))) (inn : List (List Int)) (b2 b3 b4 : List Nat) (w : World)
    (h2 : Push2E base w (.slice B n kb) ca b2) (h3 : Ints3E base w (.slice R n kr) re b3) (h4 : Ints2E base w (.slice I n ki) inn b4) (hb2 : Bd2 ca) (hb3 : Bd3 re) (hb4 : Bd2 inn)
    (hn : n ≤ 40) (hst1 : 1 ≤ stack) (hst2 : stack ≤ 80) (hs : s < n) (cs : List (Int × Int)) (rs : List (List Int)) (ns : List Int) (hcs : ca[s]? = some cs) (hrs : re[s]? = some rs) (hns : inn[s]? = some ns) :
    Calls Try.prog 100 #[.agg #[.int .i64 stack, .int .i64 start, .slice A n ka, .slice B n kb, .slice R n kr, .slice I n ki], .int .i64 (s : Int)] w fun e w' => e = .returned (.bool (mvB n stack cs rs ns)) ∧ Below w.heap.size w w' := by
  obtain ⟨g2, _, u2, d2, hv2, hc2, hE2, hg2, _⟩ := h2.at_ (push_ok _) hcs
  obtain ⟨g3, _, u3, d3, hv3, hc3, hE3, hg3, _⟩ := h3.at_ (ints2_ok _) hrs
  obtain ⟨g4, _, u4, d4, hv4, hc4, hE4, hg4, _⟩ := h4.at_ (ints_ok _) hns
  simp only [Value.slice.injEq] at hv2 hv3 hv4
  obtain ⟨rfl, e2, rfl⟩ := hv2
  obtain ⟨rfl, e3, rfl⟩ := hv3
  obtain ⟨rfl, e4, rfl⟩ := hv4
  have bcs := hb2.2 cs (List.mem_of_getElem? hcs)
  have brs := hb3.2 rs (List.mem_of_getElem? hrs)
  have bns := hb4.2 ns (List.mem_of_getElem? hns)
  obtain ⟨A2, k2, rfl⟩ := RowE.slice hE2
  obtain ⟨A3, k3, rfl⟩ := ManyE.slice hE3
  obtain ⟨A4, k4, rfl⟩ := RowE.slice hE4
  have yb : cs.length ≤ 1048576 := bcs
  have zb : rs.length ≤ 1048576 := brs.1
  have tb : ns.length ≤ 1048576 := bns
  clear e2 e3 e4 h2 h3 h4 hb2 hb3 hb4 hcs hrs hns
  have hbx := Box6.new w (.int .i64 stack) (.int .i64 start) (.slice A n ka) (.slice (some ⟨g2, 0, none⟩) n kb) (.slice (some ⟨g3, 0, none⟩) n kr) (.slice (some ⟨g4, 0, none⟩) n ki) 46
  have hB0 : Below w.heap.size w (w.alloc (.cells #[.int .i64 stack, .int .i64 start, .slice A n ka, .slice (some ⟨g2, 0, none⟩) n kb, .slice (some ⟨g3, 0, none⟩) n kr, .slice (some ⟨g4, 0, none⟩) n ki] 46)) := (Below.refl _ _).alloc (Nat.le_refl _) _
  obtain ⟨c0, c1, c2, c3, c4, c5, cl⟩ := id hbx
  go_enter Try.func100, Try.ntmps100
  go_wp2_with fail
  refine (impl_count _ _ _ _ _ _ _ _ _ _ _ _ _ _ _).mono ?_
  clear c0 c1 c2 c3 c4 c5 cl
  rintro e w1 ⟨rfl, hb1⟩
  have hbx1 := hbx.later hb1
  have hB1 := hB0.trans (hb1.mono hB0.size)
  have x2 := (hB1.cell (p := ⟨g2, s, none⟩) hg2).trans hc2
  have x3 := (hB1.cell (p := ⟨g3, s, none⟩) hg3).trans hc3
  have x4 := (hB1.cell (p := ⟨g4, s, none⟩) hg4).trans hc4
  have hE2' := (push_ok _).later hE2 hB1
  have hE3' := (ints2_ok _).later hE3 hB1
  have hE4' := (ints_ok _).later hE4 hB1
  obtain ⟨c0, c1, c2, c3, c4, c5, cl⟩ := id hbx1
  clear hc2 hc3 hc4 hE2 hE3 hE4 hbx hB0 hb1
  go_wp2
  go_quiet (fail)
  clear c0 c1 c2 c3 c4 c5 x2 x3 x4
  have hz : w.heap.size < w1.heap.size := cl
  have hBq : Below w.heap.size w (w1.drewN nq) := below_drewN hB1 _
  have hbxq : Box6 (w1.drewN nq) w.heap.size (.int .i64 stack) (.int .i64 start) (.slice A n ka) (.slice (some ⟨g2, 0, none⟩) n kb) (.slice (some ⟨g3, 0, none⟩) n kr) (.slice (some ⟨g4, 0, none⟩) n ki) := hbx1.same rfl
  have hE2q := (push_ok _).drewN hE2' nq
  have hE3q := (ints2_ok _).drewN hE3' nq
  have hE4q := (ints_ok _).drewN hE4' nq
  obtain ⟨W, hW⟩ : ∃ W, W = w1.drewN nq := ⟨_, rfl⟩
  rw [← hW] at hBq hbxq hE2q hE3q hE4q ⊢
  clear hW hE2' hE3' hE4' hbx1 hB1 cl hz
  by_cases l2 : cs.length = 2
  case' neg =>
    have hf : Hid (mvB n stack cs rs ns = false) := by show _ = _; simp [mvB, l2]
    have e5 : ((cs.length : Int) != 2) = true := by simp; omega
    have e6 : (cs.length != 2) = true := by simpa using l2
    clear l2 hE2q hE3q hE4q brs bns hbxq
    generalize cs.length = y at yb e5 e6 ⊢
    go_wp2
    go_ret
    exact ⟨by rw [hf.out]; rfl, hBq⟩
  rw [l2] at hE2q ⊢
  by_cases l3 : rs.length = 2
  case' neg =>
    have hf : Hid (mvB n stack cs rs ns = false) := by show _ = _; simp [mvB, l3]
    have e5 : ((rs.length : Int) != 2) = true := by simp; omega
    have e6 : (rs.length != 2) = true := by simpa using l3
    clear l3 hE2q hE3q hE4q brs bns hbxq
    generalize rs.length = y at zb e5 e6 ⊢
    go_wp2
    go_ret
    exact ⟨by rw [hf.out]; rfl, hBq⟩
  rw [l3] at hE3q ⊢
  by_cases l4 : ns.length = 2
  case' neg =>
    have hf : Hid (mvB n stack cs rs ns = false) := by show _ = _; simp [mvB, l4]
    have e5 : ((ns.length : Int) != 2) = true := by simp; omega
    have e6 : (ns.length != 2) = true := by simpa using l4
    clear l4 hE2q hE3q hE4q brs bns hbxq
    generalize ns.length = y at tb e5 e6 ⊢
    go_wp2
    go_ret
    exact ⟨by rw [hf.out]; rfl, hBq⟩
  rw [l4] at hE4q ⊢
  have L2 := Lib.hid l2
  have L3 := Lib.hid l3
  have L4 := Lib.hid l4
  clear l2 l3 l4 yb zb tb
  go_wp2
  go_loopw [43] (fun i wv => ∃ k : Nat, k ≤ 2 ∧ i = .int .i64 k ∧ Hid ((rs.take k).all (fun r => listB r (stack + 1) n) = true) ∧ wv = W) (fun i _ => 2 - (intOf i).toNat)
  case atStart => exact ⟨0, by omega, rfl, rfl, rfl⟩
  case round =>
    obtain ⟨j, hj, rfl, hA, rfl⟩ := hrel
    by_cases hj2 : j < 2
    · obtain ⟨r, hr⟩ : ∃ x, rs[j]? = some x := ⟨_, List.getElem?_eq_getElem (by rw [L3.out]; exact hj2)⟩
      obtain ⟨gR, _, uR, dR, hvR, hcR, hER, hgR, _⟩ := hE3q.at_ (ints_ok _) hr
      simp only [Value.slice.injEq] at hvR
      obtain ⟨rfl, e7, rfl⟩ := hvR
      clear e7
      have brr := brs.2 r (List.mem_of_getElem? hr)
      obtain ⟨AR, kR, rfl⟩ := RowE.slice hER
      have rb : r.length ≤ 1048576 := brr
      obtain ⟨c0, c1, c2, c3, c4, c5, cl⟩ := id hbxq
      have hno : listB r (stack + 1) n = false → mvB n stack cs rs ns = false := fun h => by rw [mvB, all_no (f := fun r => listB r (stack + 1) n) hr h]; simp
      have hyes : listB r (stack + 1) n = true → (rs.take (j + 1)).all (fun r => listB r (stack + 1) n) = true := fun h => all_snoc hr h hA.out
      have Hno := Lib.hid hno
      have Hyes := Lib.hid hyes
      have qc := impl_all (n : Int) _ brr hER
      clear hr hno hyes hER
      by_cases hl : (r.length : Int) = stack + 1
      · cases kD : allB r (n : Int) with
        | false =>
          have hf := Lib.hid (Hno.out (by simp [listB, kD]))
          rw [kD] at qc
          have QC := Lib.hid qc
          have e8 : ((r.length : Int) != stack + 1) = false := by simpa using hl
          clear qc kD Hno Hyes hl
          generalize r.length = y at rb e8 hcR QC
          go_wp2_with (go_at_call 89; refine QC.out.mono ?_; rintro e w' ⟨rfl, rfl⟩)
          go_ret
          exact ⟨by rw [hf.out]; rfl, hBq⟩
        | true =>
          have hk3 := Lib.hid (Hyes.out (by simp [listB, kD, hl]))
          rw [kD] at qc
          have QC := Lib.hid qc
          have e8 : ((r.length : Int) != stack + 1) = false := by simpa using hl
          clear qc kD Hno Hyes hl
          generalize r.length = y at rb e8 hcR QC
          go_wp2_with (go_at_call 89; refine QC.out.mono ?_; rintro e w' ⟨rfl, rfl⟩)
          go_roundw
          case rel => exact ⟨j + 1, by omega, by go_num, hk3, by first | exact trivial | rfl⟩
          case measure => simp [intOf]; omega
      · have hf := Lib.hid (Hno.out (by simp [listB, hl]))
        have e8 : ((r.length : Int) != stack + 1) = true := by simpa using hl
        clear qc Hno Hyes hl
        generalize r.length = y at rb e8 hcR
        go_wp2
        go_ret
        exact ⟨by rw [hf.out]; rfl, hBq⟩
    · have e : j = 2 := by omega
      subst e
      have hAll2 : Hid (rs.all (fun r => listB r (stack + 1) n) = true) := by
        have h1 := hA.out
        rwa [← L3.out, List.take_length] at h1
      have qp := impl_pushes (n : Int) stack wr bcs (by rw [← L2.out] at hE2q; exact hE2q)
      rw [L2.out] at qp
      obtain ⟨c0, c1, c2, c3, c4, c5, cl⟩ := id hbxq
      cases kP : cs.all (pB n stack) with
      | false =>
        have hf : Hid (mvB n stack cs rs ns = false) := by show _ = _; rw [mvB, kP]; simp
        rw [kP] at qp
        have QP := Lib.hid qp
        clear qp hA kP
        go_wp2_with fail
        refine QP.out.mono ?_
        rintro e w' ⟨rfl, hb'⟩
        go_wp2
        go_ret
        exact ⟨by rw [hf.out]; rfl, hBq.trans (hb'.mono hBq.size)⟩
      | true =>
        have hres : Hid (mvB n stack cs rs ns = allB ns n) := by show _ = _; rw [mvB, kP, hAll2.out, L2.out, L3.out, L4.out]; simp
        rw [kP] at qp
        have QP := Lib.hid qp
        clear qp hA kP
        have qd := fun (W' : World) (hw : Below wr.heap.size wr W') => impl_all (n : Int) W' bns ((ints_ok _).later (by rw [← L4.out] at hE4q; exact hE4q) hw)
        rw [L4.out] at qd
        have QD := Lib.hid qd
        clear qd
        go_wp2_with fail
        refine QP.out.mono ?_
        rintro e w' ⟨rfl, hb'⟩
        go_wp2_with fail
        refine (QD.out _ hb').mono ?_
        rintro e w' ⟨rfl, rfl⟩
        go_wp2
        go_ret
        exact ⟨by rw [hres.out]; rfl, hBq.trans (hb'.mono hBq.size)⟩
end Go.Proofs.Yticmekdfdilcpaa
