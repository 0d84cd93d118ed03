/- Whether a checker is valid: l02Ok of the model, ValidChecker of both. -/
import Derived.Test.YticmekdfdilcpaaBelow
import Derived.BigQuiet
import Derived.Deep.QuietTactic
import Derived.IntWalk
namespace Go.Proofs.Yticmekdfdilcpaa
open Go.RowKit
set_option linter.unusedVariables false

/-- Whether the head of a checker is right. -/
def hdB (stack start : Int) (n nb nr ni : Nat) : Bool := rngB n 1 40 && (rngB stack 1 80 && (inB start n && (decide (nb = n) && (decide (nr = n) && decide (ni = n)))))

set_option maxHeartbeats 3200000 in
set_option maxRecDepth 100000 in
theorem spec_head_no (p : Nat) (A B R I : Option Addr) (n ka nb kb nr kr ni ki : Nat) (stack start : Int) (w : World) (hn : n ≤ 1048576) (hnb : nb ≤ 1048576) (hnr : nr ≤ 1048576) (hni : ni ≤ 1048576)
    (hbx : Box6 w p (.int .i64 stack) (.int .i64 start) (.slice A n ka) (.slice B nb kb) (.slice R nr kr) (.slice I ni ki)) (h : hdB stack start n nb nr ni = false) :
    Calls Try.prog 47 #[.pointer (some ⟨p, 0, none⟩)] w fun e w' => e = .returned (.bool false) ∧ w = w' := by
  obtain ⟨c0, c1, c2, c3, c4, c5, cl⟩ := hbx
  cases h1 : rngB n 1 40 with
  | false =>
    have r1 := spec_rng (x := (n : Int)) (a := 1) (b := 40) w
    rw [h1] at r1
    have R1 := Lib.hid r1
    clear r1 h1 h
    go_enter Try.func47, Try.ntmps47
    go_wp2_with (go_at_call 86; refine R1.out.mono ?_; rintro e w' ⟨rfl, rfl⟩)
    go_ret
    exact ⟨rfl, rfl⟩
  | true =>
  have n1 := rngB_yes h1
  have r1 := spec_rng (x := (n : Int)) (a := 1) (b := 40) w
  rw [h1] at r1
  have R1 := Lib.hid r1
  cases h2 : rngB stack 1 80 with
  | false =>
    have r2 := spec_rng (x := stack) (a := 1) (b := 80) w
    rw [h2] at r2
    have R2 := Lib.hid r2
    clear r1 h1 h r2 h2
    go_enter Try.func47, Try.ntmps47
    go_wp2_with fail
    refine R1.out.mono ?_
    rintro e w' ⟨rfl, rfl⟩
    go_wp2_with fail
    refine R2.out.mono ?_
    rintro e w' ⟨rfl, rfl⟩
    go_wp2
    go_ret
    exact ⟨rfl, rfl⟩
  | true =>
  have r2 := spec_rng (x := stack) (a := 1) (b := 80) w
  rw [h2] at r2
  have R2 := Lib.hid r2
  cases h3 : inB start n with
  | false =>
    have r3 := spec_in (x := start) (n := (n : Int)) w
    rw [h3] at r3
    have R3 := Lib.hid r3
    clear r1 h1 h r2 h2 r3 h3
    go_enter Try.func47, Try.ntmps47
    go_wp2_with fail
    refine R1.out.mono ?_
    rintro e w' ⟨rfl, rfl⟩
    go_wp2_with fail
    refine R2.out.mono ?_
    rintro e w' ⟨rfl, rfl⟩
    go_wp2_with fail
    refine R3.out.mono ?_
    rintro e w' ⟨rfl, rfl⟩
    go_wp2
    go_ret
    exact ⟨rfl, rfl⟩
  | true =>
  have r3 := spec_in (x := start) (n := (n : Int)) w
  rw [h3] at r3
  have R3 := Lib.hid r3
  have hd : ¬ (nb = n ∧ nr = n ∧ ni = n) := by
    rintro ⟨rfl, rfl, rfl⟩
    rw [hdB, h1, h2, h3] at h
    simp at h
  clear r1 h1 h r2 h2 r3 h3
  by_cases e1 : nb = n
  case' pos =>
    subst e1
    by_cases e2 : nr = nb
    case' pos =>
      subst e2
      have e3 : ni ≠ nr := fun e => hd ⟨rfl, rfl, e⟩
      have e4 : ((ni : Int) != (nr : Int)) = true := by simp; omega
      have e5 : (ni != nr) = true := by simpa using e3
      clear hd e3
    case neg =>
      have e4 : ((nr : Int) != (nb : Int)) = true := by simp; omega
      have e5 : (nr != nb) = true := by simpa using e2
      clear hd e2
      go_enter Try.func47, Try.ntmps47
      go_wp2_with fail
      refine R1.out.mono ?_
      rintro e w' ⟨rfl, rfl⟩
      go_wp2_with fail
      refine R2.out.mono ?_
      rintro e w' ⟨rfl, rfl⟩
      go_wp2_with fail
      refine R3.out.mono ?_
      rintro e w' ⟨rfl, rfl⟩
      go_wp2
      go_ret
      exact ⟨rfl, rfl⟩
  case neg =>
    have e4 : ((nb : Int) != (n : Int)) = true := by simp; omega
    have e5 : (nb != n) = true := by simpa using e1
    clear hd e1
    go_enter Try.func47, Try.ntmps47
    go_wp2_with fail
    refine R1.out.mono ?_
    rintro e w' ⟨rfl, rfl⟩
    go_wp2_with fail
    refine R2.out.mono ?_
    rintro e w' ⟨rfl, rfl⟩
    go_wp2_with fail
    refine R3.out.mono ?_
    rintro e w' ⟨rfl, rfl⟩
    go_wp2
    go_ret
    exact ⟨rfl, rfl⟩
  go_enter Try.func47, Try.ntmps47
  go_wp2_with fail
  refine R1.out.mono ?_
  rintro e w' ⟨rfl, rfl⟩
  go_wp2_with fail
  refine R2.out.mono ?_
  rintro e w' ⟨rfl, rfl⟩
  go_wp2_with fail
  refine R3.out.mono ?_
  rintro e w' ⟨rfl, rfl⟩
  go_wp2
  go_ret
  exact ⟨rfl, rfl⟩

def kB (n stack : Int) (p : Int × Int) (r : List Int) : Bool := inB p.1 n && (inB p.2 stack && listB r (stack + 1) n)
def twoB (n stack : Int) (cs : List (Int × Int)) (rs : List (List Int)) (k : Nat) : Bool := (List.range k).all fun j => kB n stack (cs[j]?.getD (0, 0)) (rs[j]?.getD [])
def stB (n stack : Int) (cs : List (Int × Int)) (rs : List (List Int)) (ns : List Int) : Bool := decide (cs.length = 2) && (decide (rs.length = 2) && (listB ns 2 n && twoB n stack cs rs 2))
def allS (n : Nat) (stack : Int) (ca : List (List (Int × Int))) (re : List (List (List Int))) (inn : List (List Int)) (k : Nat) : Bool :=
  (List.range k).all fun s => stB n stack (ca[s]?.getD []) (re[s]?.getD []) (inn[s]?.getD [])
theorem range_all_succ (f : Nat → Bool) (k : Nat) : (List.range (k + 1)).all f = ((List.range k).all f && f k) := by
  rw [List.range_succ, List.all_append]
  simp
theorem range_all_no {f : Nat → Bool} {k n : Nat} (hk : k < n) (h : f k = false) : (List.range n).all f = false := by
  rw [List.all_eq_false]
  exact ⟨k, List.mem_range.2 hk, by simp [h]⟩
def okB (c : Ck) : Bool := hdB c.stack c.start c.accept.length c.call.length c.ret.length c.inner.length && allS c.accept.length c.stack c.call c.ret c.inner c.accept.length

set_option maxHeartbeats 64000000 in
set_option maxRecDepth 100000 in
theorem spec_loop {base : Nat} (p : Nat) (A B R I : Option Addr) (n ka kb kr ki : Nat) (stack start : Int) (ca : List (List (Int × Int))) (re : List (List (List Int))) (inn : List (List Int)) (b2 b3 b4 : List Nat) (w : World)
    (hbx : Box6 w p (.int .i64 stack) (.int .i64 start) (.slice A n ka) (.slice B n kb) (.slice R n kr) (.slice I n ki))
    (h2 : Push2E base w (.slice B n kb) ca b2) (h3 : Ints3E base w (.slice R n kr) re b3) (h4 : Ints2E base w (.slice I n ki) inn b4) (hb2 : Bd2 ca) (hb3 : Bd3 re) (hb4 : Bd2 inn)
    (hl2 : ca.length = n) (hl3 : re.length = n) (hl4 : inn.length = n) (hn : rngB n 1 40 = true) (hs : rngB stack 1 80 = true) (hst : inB start n = true) :
    Calls Try.prog 47 #[.pointer (some ⟨p, 0, none⟩)] w fun e w' => e = .returned (.bool (allS n stack ca re inn n)) ∧ ∃ m, w' = w.drewN m := by
  have r1 := spec_rng (x := (n : Int)) (a := 1) (b := 40) w
  have r2 := spec_rng (x := stack) (a := 1) (b := 80) w
  have r3 := spec_in (x := start) (n := (n : Int)) w
  rw [hn] at r1
  rw [hs] at r2
  rw [hst] at r3
  have R1 := Lib.hid r1
  have R2 := Lib.hid r2
  have R3 := Lib.hid r3
  have n1 := rngB_yes hn
  have s1 := rngB_yes hs
  have Hb2 := Lib.hid hb2
  have Hb3 := Lib.hid hb3
  have Hb4 := Lib.hid hb4
  have Hl2 := Lib.hid hl2
  have Hl3 := Lib.hid hl3
  have Hl4 := Lib.hid hl4
  have hbx0 := hbx
  obtain ⟨c0, c1, c2, c3, c4, c5, cl⟩ := hbx
  clear hn hs hst r1 r2 r3 hb2 hb3 hb4 hl2 hl3 hl4
  go_enter Try.func47, Try.ntmps47
  go_wp2_with fail
  refine R1.out.mono ?_
  rintro e w' ⟨rfl, rfl⟩
  go_wp2_with fail
  refine R2.out.mono ?_
  rintro e w' ⟨rfl, rfl⟩
  go_wp2_with fail
  refine R3.out.mono ?_
  rintro e w' ⟨rfl, rfl⟩
  go_wp2
  clear c0 c1 c2 c3 c4 c5
  go_loopw [4] (fun i wr => ∃ s m : Nat, s ≤ n ∧ i = .int .i64 s ∧ wr = w.drewN m ∧ Hid (allS n stack ca re inn s = true)) (fun i _ => n - (intOf i).toNat)
  case atStart => exact ⟨0, 0, Nat.zero_le _, rfl, rfl, rfl⟩
  case round =>
    obtain ⟨s, m, hs, rfl, rfl, hA⟩ := hrel
    by_cases hlt : s < n
    · have bx := hbx0.same (W' := w.drewN m) rfl
      obtain ⟨c0, c1, c2, c3, c4, c5, cl⟩ := bx
      obtain ⟨cs, hcs⟩ : ∃ x, ca[s]? = some x := ⟨_, List.getElem?_eq_getElem (by rw [Hl2.out]; exact hlt)⟩
      obtain ⟨rs, hrs⟩ : ∃ x, re[s]? = some x := ⟨_, List.getElem?_eq_getElem (by rw [Hl3.out]; exact hlt)⟩
      obtain ⟨ns, hns⟩ : ∃ x, inn[s]? = some x := ⟨_, List.getElem?_eq_getElem (by rw [Hl4.out]; exact hlt)⟩
      have hstep : allS n stack ca re inn (s + 1) = stB n stack cs rs ns := by
        rw [allS, range_all_succ, hcs, hrs, hns]
        have := hA.out
        rw [allS] at this
        rw [this]; rfl
      have hno : stB n stack cs rs ns = false → allS n stack ca re inn n = false := fun h => range_all_no hlt (by rw [hcs, hrs, hns]; exact h)
      obtain ⟨g2, _, u2, d2, hv2, hc2, hE2, hg2, _⟩ := h2.at_ (push_ok _) hcs
      obtain ⟨g3, _, u3, d3, hv3, hc3, hE3, hg3, _⟩ := h3.at_ (ints2_ok _) hrs
      obtain ⟨g4, _, u4, d4, hv4, hc4, hE4, hg4, _⟩ := h4.at_ (ints_ok _) hns
      simp only [Value.slice.injEq] at hv2 hv3 hv4
      obtain ⟨rfl, e2, rfl⟩ := hv2
      obtain ⟨rfl, e3, rfl⟩ := hv3
      obtain ⟨rfl, e4, rfl⟩ := hv4
      clear e2 e3 e4
      have bcs := Hb2.out.2 cs (List.mem_of_getElem? hcs)
      have brs := Hb3.out.2 rs (List.mem_of_getElem? hrs)
      have bns := Hb4.out.2 ns (List.mem_of_getElem? hns)
      obtain ⟨A2, k2, rfl⟩ := RowE.slice hE2
      obtain ⟨A3, k3, rfl⟩ := ManyE.slice hE3
      obtain ⟨A4, k4, rfl⟩ := RowE.slice hE4
      have f2 : (w.drewN m).cell? ⟨g2, s, none⟩ = _ := hc2
      have f3 : (w.drewN m).cell? ⟨g3, s, none⟩ = _ := hc3
      have f4 : (w.drewN m).cell? ⟨g4, s, none⟩ = _ := hc4
      have L4 := Lib.hid fun q => spec_list 2 (n : Int) (w.drewN q) bns (by omega) ((ints_ok _).drewN hE4 q)
      have Hstep := Lib.hid hstep
      have Hno := Lib.hid hno
      have yb : cs.length ≤ 1048576 := bcs
      have zb : rs.length ≤ 1048576 := brs.1
      have tb : ns.length ≤ 1048576 := bns
      have hc2' := Lib.hid hc2
      have hc3' := Lib.hid hc3
      clear hcs hrs hns hstep hno hc2 hc3 hc4
      by_cases l2 : cs.length = 2
      case' neg =>
        have hs0 : stB n stack cs rs ns = false := by simp [stB, l2]
        have hf := Lib.hid (Hno.out hs0)
        have e5 : ((cs.length : Int) != 2) = true := by simp; omega
        have e6 : (cs.length != 2) = true := by simpa using l2
        clear hs0 l2 hE2 hE3 hE4 bcs brs bns L4 Hno Hstep
        generalize cs.length = y at yb e5 e6 f2
        go_wp2
        go_ret
        exact ⟨by rw [hf.out]; rfl, _, rfl⟩
      by_cases l3 : rs.length = 2
      case' neg =>
        have hs0 : stB n stack cs rs ns = false := by simp [stB, l3]
        have hf := Lib.hid (Hno.out hs0)
        have e5 : ((rs.length : Int) != 2) = true := by simp; omega
        have e6 : (rs.length != 2) = true := by simpa using l3
        rw [l2] at f2
        clear hs0 l2 l3 hE2 hE3 hE4 bcs brs bns L4 Hno Hstep yb
        generalize rs.length = y at zb e5 e6 f3
        go_wp2
        go_ret
        exact ⟨by rw [hf.out]; rfl, _, rfl⟩
      rw [l2] at f2
      rw [l3] at f3
      have q4 := L4.out
      cases l4 : listB ns 2 (n : Int) with
      | false =>
        have hs0 : stB n stack cs rs ns = false := by simp [stB, l4]
        have hf := Lib.hid (Hno.out hs0)
        rw [l4] at q4
        have Q4 := Lib.hid q4
        clear hs0 l2 l3 l4 hE2 hE3 hE4 bcs brs bns L4 Hno Hstep yb zb q4
        go_wp2_with (go_at_call 97; refine (Q4.out _).mono ?_; rintro e w' ⟨rfl, rfl⟩)
        go_ret
        exact ⟨by rw [hf.out]; rfl, _, rfl⟩
      | true =>
        rw [l4] at q4
        have Q4 := Lib.hid q4
        have hse : stB n stack cs rs ns = twoB n stack cs rs 2 := by simp [stB, l2, l3, l4]
        have Hse := Lib.hid hse
        have L2 := Lib.hid l2
        have L3 := Lib.hid l3
        clear l2 l3 l4 L4 yb zb q4 hse
        go_wp2_with (go_at_call 97; refine (Q4.out _).mono ?_; rintro e w' ⟨rfl, rfl⟩)
        clear c0 c1 c2 c3 c4 c5 f2 f3 f4
        go_loopw [5] (fun i wr => ∃ k m' : Nat, k ≤ 2 ∧ i = .int .i64 k ∧ wr = w.drewN m' ∧ Hid (twoB n stack cs rs k = true)) (fun i _ => 2 - (intOf i).toNat)
        case atStart => exact ⟨0, m, by omega, rfl, rfl, rfl⟩
        case round =>
          obtain ⟨k, m', hk, rfl, rfl, hT⟩ := hrel
          by_cases hk2 : k < 2
          · have bx := hbx0.same (W' := w.drewN m') rfl
            obtain ⟨c0, c1, c2, c3, c4, c5, cl⟩ := bx
            have f2 : (w.drewN m').cell? ⟨g2, s, none⟩ = some (.slice A2 2 k2) := by rw [← L2.out]; exact hc2'.out
            have f3 : (w.drewN m').cell? ⟨g3, s, none⟩ = some (.slice A3 2 k3) := by rw [← L3.out]; exact hc3'.out
            obtain ⟨x, hx⟩ : ∃ x, cs[k]? = some x := ⟨_, List.getElem?_eq_getElem (by rw [L2.out]; exact hk2)⟩
            obtain ⟨r, hr⟩ : ∃ x, rs[k]? = some x := ⟨_, List.getElem?_eq_getElem (by rw [L3.out]; exact hk2)⟩
            have hstep : twoB n stack cs rs (k + 1) = kB n stack x r := by
              rw [twoB, range_all_succ, hx, hr]
              have := hT.out
              rw [twoB] at this
              rw [this]; rfl
            have hno : kB n stack x r = false → allS n stack ca re inn n = false := fun h => Hno.out (by
              rw [Hse.out]
              exact range_all_no hk2 (by rw [hx, hr]; exact h))
            obtain ⟨gA, rfl, hgA, _⟩ := RowE.head hE2 (j := k) (by rw [L2.out]; exact hk2)
            have x1 := (PushE.cell' hE2 hx).1
            have x2 := (PushE.cell' hE2 hx).2
            obtain ⟨gR, _, uR, dR, hvR, hcR, hER, hgR, _⟩ := hE3.at_ (ints_ok _) hr
            simp only [Value.slice.injEq] at hvR
            obtain ⟨rfl, e7, rfl⟩ := hvR
            clear e7
            have brr := brs.2 r (List.mem_of_getElem? hr)
            obtain ⟨AR, kR, rfl⟩ := RowE.slice hER
            have y1 : (w.drewN m').cell? ⟨gA, k * 2, none⟩ = _ := x1
            have y2 : (w.drewN m').cell? ⟨gA, k * 2 + 1, none⟩ = _ := x2
            have y3 : (w.drewN m').cell? ⟨gR, k, none⟩ = _ := hcR
            have qc := fun q => spec_list (stack + 1) (n : Int) (w.drewN q) brr (by omega) ((ints_ok _).drewN hER q)
            obtain ⟨p1, p2⟩ := x
            dsimp only at y1 y2
            have qa := fun W => spec_in (x := p1) (n := (n : Int)) W
            have qb := fun W => spec_in (x := p2) (n := stack) W
            have Hstep2 := Lib.hid hstep
            have Hno2 := Lib.hid hno
            have rb : r.length ≤ 1048576 := brr
            have z1 : IntKind.i64.wrap ((n : Int) - 1) = (n : Int) - 1 := IntWalk.i64_in _ (by omega)
            have z2 : IntKind.i64.wrap (stack - 1) = stack - 1 := IntWalk.i64_in _ (by omega)
            have z3 : IntKind.i64.wrap (stack + 1) = stack + 1 := IntWalk.i64_in _ (by omega)
            obtain ⟨w0, w1, w2, w3, w4, w5, wl⟩ := id hbx0
            have v2 : w.cell? ⟨g2, s, none⟩ = some (.slice (some ⟨gA, 0, none⟩) 2 k2) := f2
            have v3 : w.cell? ⟨g3, s, none⟩ = some (.slice (some ⟨gR, 0, none⟩) 2 k3) := f3
            dsimp only at x1 x2
            clear hx hr hstep hno hER
            cases kA : inB p1 (n : Int) with
            | false =>
              have hf := Lib.hid (Hno2.out (by simp [kB, kA]))
              rw [kA] at qa
              have QA := Lib.hid qa
              clear qa qb qc kA Hno2 Hstep2
              clear f2 f3 y1 y2 y3 c0 c1 c2 c3 c4 c5 cl w1 w2 w5 wl hgA hgR rb brr
              go_wp2
              go_big_quiet ((go_at_call 86; exact (QA.out _).mono fun e w' h => ⟨h.1, _, h.2.symm⟩))
              clear z1 z2 z3
              go_wp2
              go_ret
              exact ⟨by rw [hf.out]; rfl, _, by first | rfl | rw [World.drewN_drewN]⟩
            | true =>
              rw [kA] at qa
              have QA := Lib.hid qa
              cases kC : inB p2 stack with
              | false =>
                have hf := Lib.hid (Hno2.out (by simp [kB, kC]))
                rw [kC] at qb
                have QB := Lib.hid qb
                have HA := Lib.hid kA
                have HC := Lib.hid kC
                clear qa qb qc kA kC Hno2 Hstep2 QA QB
                clear f2 f3 y1 y2 y3 c0 c1 c2 c3 c4 c5 cl w1 w2 w5 wl hgA hgR rb brr
                go_wp2
                go_big_quiet ((go_at_call 86; refine Calls.mono (spec_in _) ?_; intro e w' h; exact ⟨h.1.trans (congrArg (fun b => Ending.returned (.bool b)) (by first | exact HA.out | exact HC.out)), _, h.2.symm⟩))
                clear z1 z2 z3
                go_wp2
                go_ret
                exact ⟨by rw [hf.out]; rfl, _, by first | rfl | rw [World.drewN_drewN]⟩
              | true =>
                rw [kC] at qb
                have QB := Lib.hid qb
                cases kD : listB r (stack + 1) (n : Int) with
                | false =>
                  have hf := Lib.hid (Hno2.out (by simp [kB, kD]))
                  rw [kD] at qc
                  have QC := Lib.hid qc
                  have HA := Lib.hid kA
                  have HC := Lib.hid kC
                  clear qa qb qc kA kC kD Hno2 Hstep2 QA QB
                  clear f2 f3 y1 y2 y3 c0 c1 c2 c3 c4 c5 cl w1 w2 w5 wl hgA hgR rb brr
                  go_wp2
                  go_big_quiet ((first | (go_at_call 86; refine Calls.mono (spec_in _) ?_; intro e w' h; exact ⟨h.1.trans (congrArg (fun b => Ending.returned (.bool b)) (by first | exact HA.out | exact HC.out)), _, h.2.symm⟩) | (go_at_call 97; exact (QC.out _).mono fun e w' h => ⟨h.1, _, h.2.symm⟩)))
                  clear z1 z2 z3
                  go_wp2
                  go_ret
                  exact ⟨by rw [hf.out]; rfl, _, by first | rfl | rw [World.drewN_drewN]⟩
                | true =>
                  have hkk : Hid (twoB n stack cs rs (k + 1) = true) := by show _ = _; rw [Hstep2.out]; simp [kB, kA, kC, kD]
                  rw [kD] at qc
                  have QC := Lib.hid qc
                  have HA := Lib.hid kA
                  have HC := Lib.hid kC
                  clear qa qb qc kA kC kD Hno2 Hstep2 QA QB
                  clear f2 f3 y1 y2 y3 c0 c1 c2 c3 c4 c5 cl w1 w2 w5 wl hgA hgR rb brr
                  go_wp2
                  go_big_quiet ((first | (go_at_call 86; refine Calls.mono (spec_in _) ?_; intro e w' h; exact ⟨h.1.trans (congrArg (fun b => Ending.returned (.bool b)) (by first | exact HA.out | exact HC.out)), _, h.2.symm⟩) | (go_at_call 97; exact (QC.out _).mono fun e w' h => ⟨h.1, _, h.2.symm⟩)))
                  clear z1 z2 z3
                  go_wp2
                  go_roundw
                  case rel => exact ⟨k + 1, _, by omega, by go_num, by first | rfl | rw [World.drewN_drewN], hkk⟩
                  case measure => simp [intOf]; omega
          · have e : k = 2 := by omega
            subst e
            have hA2 : Hid (allS n stack ca re inn (s + 1) = true) := by show _ = _; rw [Hstep.out, Hse.out]; exact hT.out
            go_wp2
            go_roundw
            case rel => exact ⟨s + 1, m', by omega, by go_num, rfl, hA2⟩
            case measure => simp [intOf]; omega
    · have e : s = n := by omega
      subst e
      go_wp2
      go_ret
      exact ⟨by rw [hA.out]; rfl, m, rfl⟩
end Go.Proofs.Yticmekdfdilcpaa
