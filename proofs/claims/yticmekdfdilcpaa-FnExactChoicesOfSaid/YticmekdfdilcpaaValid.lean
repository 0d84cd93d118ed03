/- ValidChecker of the program. -/
import Derived.Test.YticmekdfdilcpaaMoves
namespace Go.Proofs.Yticmekdfdilcpaa
open Go.RowKit
set_option linter.unusedVariables false

/-- Whether the head of a checker is right. -/
def hdM (stack start : Int) (n nb nr ni : Nat) : Bool := rngB n 1 40 && (rngB stack 1 80 && (inB start n && (decide (nb = n) && (decide (nr = n) && decide (ni = n)))))
def allM (n : Nat) (stack : Int) (ca : List (List (Int × Int))) (re : List (List (List Int))) (inn : List (List Int)) (k : Nat) : Bool :=
  (List.range k).all fun s => mvB n stack (ca[s]?.getD []) (re[s]?.getD []) (inn[s]?.getD [])
def okM (c : Ck) : Bool := hdM c.stack c.start c.accept.length c.call.length c.ret.length c.inner.length && allM c.accept.length c.stack c.call c.ret c.inner c.accept.length
theorem rngM_all_succ (f : Nat → Bool) (k : Nat) : (List.range (k + 1)).all f = ((List.range k).all f && f k) := by
  rw [List.range_succ, List.all_append]
  simp
theorem rngM_all_no {f : Nat → Bool} {k n : Nat} (hk : k < n) (h : f k = false) : (List.range n).all f = false := by
  rw [List.all_eq_false]
  exact ⟨k, List.mem_range.2 hk, by simp [h]⟩

/-- What is wrong in a head. -/
theorem hdM_no {stack start : Int} {n nb nr ni : Nat} (h : hdM stack start n nb nr ni = false) : n < 1 ∨ (1 ≤ n ∧ 40 < n) ∨ (1 ≤ n ∧ n ≤ 40 ∧ stack < 1) ∨ (1 ≤ n ∧ n ≤ 40 ∧ 1 ≤ stack ∧ 80 < stack) ∨
    (1 ≤ n ∧ n ≤ 40 ∧ 1 ≤ stack ∧ stack ≤ 80 ∧ nb ≠ n) ∨ (1 ≤ n ∧ n ≤ 40 ∧ 1 ≤ stack ∧ stack ≤ 80 ∧ nb = n ∧ nr ≠ n) ∨ (1 ≤ n ∧ n ≤ 40 ∧ 1 ≤ stack ∧ stack ≤ 80 ∧ nb = n ∧ nr = n ∧ ni ≠ n) ∨
    (1 ≤ n ∧ n ≤ 40 ∧ 1 ≤ stack ∧ stack ≤ 80 ∧ nb = n ∧ nr = n ∧ ni = n ∧ inB start n = false) := by
  rcases Nat.lt_or_ge n 1 with a | a
  · exact .inl a
  rcases Nat.lt_or_ge 40 n with b | b
  · exact .inr (.inl ⟨a, b⟩)
  by_cases c : stack < 1
  · exact .inr (.inr (.inl ⟨a, b, c⟩))
  by_cases d : 80 < stack
  · exact .inr (.inr (.inr (.inl ⟨a, b, by omega, d⟩)))
  replace c : 1 ≤ stack := by omega
  replace d : stack ≤ 80 := by omega
  by_cases e : nb = n
  case neg => exact .inr (.inr (.inr (.inr (.inl ⟨a, b, c, d, e⟩))))
  by_cases f : nr = n
  case neg => exact .inr (.inr (.inr (.inr (.inr (.inl ⟨a, b, c, d, e, f⟩)))))
  by_cases g : ni = n
  case neg => exact .inr (.inr (.inr (.inr (.inr (.inr (.inl ⟨a, b, c, d, e, f, g⟩))))))
  refine .inr (.inr (.inr (.inr (.inr (.inr (.inr ⟨a, b, c, d, e, f, g, ?_⟩))))))
  have h1 : rngB (n : Int) 1 40 = true := by
    simp only [rngB, decide_eq_true_eq]
    omega
  have h2 : rngB stack 1 80 = true := by
    simp only [rngB, decide_eq_true_eq]
    omega
  unfold hdM at h
  rw [h1, h2, decide_eq_true e, decide_eq_true f, decide_eq_true g] at h
  simpa using h
theorem hdM_yes {stack start : Int} {n nb nr ni : Nat} (h : hdM stack start n nb nr ni = true) : 1 ≤ n ∧ n ≤ 40 ∧ 1 ≤ stack ∧ stack ≤ 80 ∧ nb = n ∧ nr = n ∧ ni = n ∧ inB start n = true := by
  unfold hdM at h
  rw [Bool.and_eq_true, Bool.and_eq_true, Bool.and_eq_true, Bool.and_eq_true, Bool.and_eq_true] at h
  obtain ⟨h1, h2, h3, h4, h5, h6⟩ := h
  have h1 := rngB_yes h1
  have h2 := rngB_yes h2
  exact ⟨by omega, by omega, h2.1, h2.2, of_decide_eq_true h4, of_decide_eq_true h5, of_decide_eq_true h6, h3⟩

set_option maxHeartbeats 6400000 in
set_option maxRecDepth 100000 in
theorem impl_head_no (A B R I : Option Addr) (n ka nb kb nr kr ni ki : Nat) (stack start : Int) (w : World) (hn : n ≤ 1048576) (hnb : nb ≤ 1048576) (hnr : nr ≤ 1048576) (hni : ni ≤ 1048576) (h : hdM stack start n nb nr ni = false) :
    Calls Try.prog 52 #[.agg #[.int .i64 stack, .int .i64 start, .slice A n ka, .slice B nb kb, .slice R nr kr, .slice I ni ki]] w (SeenPost (.bool false) w) := by
  have hB := (Below.refl w.heap.size w).alloc (Nat.le_refl _) (.cells #[.int .i64 stack, .int .i64 start, .slice A n ka, .slice B nb kb, .slice R nr kr, .slice I ni ki] 46)
  rcases hdM_no h with h1 | ⟨h1, h2⟩ | ⟨h1, h2, h3⟩ | ⟨h1, h2, h3, h4⟩ | ⟨h1, h2, h3, h4, h5⟩ | ⟨h1, h2, h3, h4, h5, h6⟩ | ⟨h1, h2, h3, h4, h5, h6, h7⟩ | ⟨h1, h2, h3, h4, h5, h6, h7, h8⟩
  · clear h
    go_enter Try.func52, Try.ntmps52
    go_wp2
    go_ret
    exact ⟨rfl, hB⟩
  · clear h
    go_enter Try.func52, Try.ntmps52
    go_wp2
    go_ret
    exact ⟨rfl, hB⟩
  · clear h
    go_enter Try.func52, Try.ntmps52
    go_wp2
    go_ret
    exact ⟨rfl, hB⟩
  · clear h
    go_enter Try.func52, Try.ntmps52
    go_wp2
    go_ret
    exact ⟨rfl, hB⟩
  · have e4 : ((nb : Int) != (n : Int)) = true := by simp; omega
    have e5 : (nb != n) = true := by simpa using h5
    clear h h5
    go_enter Try.func52, Try.ntmps52
    go_wp2
    go_ret
    exact ⟨rfl, hB⟩
  · have e4 : ((nr : Int) != (n : Int)) = true := by simp; omega
    have e5 : (nr != n) = true := by simpa using h6
    clear h h6
    subst h5
    go_enter Try.func52, Try.ntmps52
    go_wp2
    go_ret
    exact ⟨rfl, hB⟩
  · have e4 : ((ni : Int) != (n : Int)) = true := by simp; omega
    have e5 : (ni != n) = true := by simpa using h7
    clear h h7
    subst h5
    subst h6
    go_enter Try.func52, Try.ntmps52
    go_wp2
    go_ret
    exact ⟨rfl, hB⟩
  · clear h
    subst h5
    subst h6
    subst h7
    have qa := fun W => impl_below (x := start) (n := (ni : Int)) W
    rw [h8] at qa
    have QA := Lib.hid qa
    clear qa h8
    go_enter Try.func52, Try.ntmps52
    go_wp2_with fail
    refine (QA.out _).mono ?_
    rintro e w' ⟨rfl, rfl⟩
    go_wp2
    go_ret
    exact ⟨rfl, hB⟩

set_option maxHeartbeats 6400000 in
set_option maxRecDepth 100000 in
theorem impl_states {base : Nat} (A B R I : Option Addr) (n ka kb kr ki : Nat) (stack start : Int) (ca : List (List (Int × Int))) (re : List (List (List Int))) (inn : List (List Int)) (b2 b3 b4 : List Nat) (w : World)
    (h2 : Push2E base w (.slice B n kb) ca b2) (h3 : Ints3E base w (.slice R n kr) re b3) (h4 : Ints2E base w (.slice I n ki) inn b4) (hb2 : Bd2 ca) (hb3 : Bd3 re) (hb4 : Bd2 inn)
    (hl2 : ca.length = n) (hl3 : re.length = n) (hl4 : inn.length = n) (hn0 : 1 ≤ n) (hn : n ≤ 40) (hst1 : 1 ≤ stack) (hst2 : stack ≤ 80) (hst : inB start n = true) :
    Calls Try.prog 52 #[.agg #[.int .i64 stack, .int .i64 start, .slice A n ka, .slice B n kb, .slice R n kr, .slice I n ki]] w (SeenPost (.bool (allM n stack ca re inn n)) w) := by
  have qa := fun W => impl_below (x := start) (n := (n : Int)) W
  rw [hst] at qa
  have QA := Lib.hid qa
  have hB := (Below.refl w.heap.size w).alloc (Nat.le_refl _) (.cells #[.int .i64 stack, .int .i64 start, .slice A n ka, .slice B n kb, .slice R n kr, .slice I n ki] 46)
  have hbx := Box6.new w (.int .i64 stack) (.int .i64 start) (.slice A n ka) (.slice B n kb) (.slice R n kr) (.slice I n ki) 46
  have Hb2 := Lib.hid hb2
  have Hb3 := Lib.hid hb3
  have Hb4 := Lib.hid hb4
  have Hl2 := Lib.hid hl2
  have Hl3 := Lib.hid hl3
  have Hl4 := Lib.hid hl4
  clear qa hst hb2 hb3 hb4 hl2 hl3 hl4
  go_enter Try.func52, Try.ntmps52
  go_wp2_with fail
  refine (QA.out _).mono ?_
  rintro e w' ⟨rfl, rfl⟩
  go_wp2
  go_loopw [52] (fun i wr => ∃ s : Nat, s ≤ n ∧ i = .int .i64 s ∧ Hid (allM n stack ca re inn s = true) ∧ Below w.heap.size w wr ∧ Box6 wr w.heap.size (.int .i64 stack) (.int .i64 start) (.slice A n ka) (.slice B n kb) (.slice R n kr) (.slice I n ki)) (fun i _ => n - (intOf i).toNat)
  case atStart => exact ⟨0, by omega, rfl, rfl, hB, hbx⟩
  case round =>
    clear hB hbx
    obtain ⟨s, hs, rfl, hA, hB, hbx⟩ := hrel
    by_cases hlt : s < n
    · obtain ⟨cs, hcs⟩ : ∃ x, ca[s]? = some x := ⟨_, List.getElem?_eq_getElem (by rw [Hl2.out]; exact hlt)⟩
      obtain ⟨rs, hrs⟩ : ∃ x, re[s]? = some x := ⟨_, List.getElem?_eq_getElem (by rw [Hl3.out]; exact hlt)⟩
      obtain ⟨ns, hns⟩ : ∃ x, inn[s]? = some x := ⟨_, List.getElem?_eq_getElem (by rw [Hl4.out]; exact hlt)⟩
      have hstep : allM n stack ca re inn (s + 1) = mvB n stack cs rs ns := by
        rw [allM, rngM_all_succ, hcs, hrs, hns]
        have := hA.out
        rw [allM] at this
        rw [this]; rfl
      have hno : mvB n stack cs rs ns = false → allM n stack ca re inn n = false := fun h => rngM_all_no hlt (by rw [hcs, hrs, hns]; exact h)
      have hm := impl_moves A B R I n ka kb kr ki s stack start ca re inn b2 b3 b4 wr ((push2_ok _).later h2 hB) ((ints3_ok _).later h3 hB) ((ints2_ok _).later h4 hB) Hb2.out Hb3.out Hb4.out hn hst1 hst2 hlt cs rs ns hcs hrs hns
      have Hstep := Lib.hid hstep
      have Hno := Lib.hid hno
      obtain ⟨c0, c1, c2, c3, c4, c5, cl⟩ := id hbx
      have hsz := hB.size
      clear hcs hrs hns hstep hno
      cases hv : mvB n stack cs rs ns with
      | false =>
        rw [hv] at hm
        have Hm := Lib.hid hm
        have hf := Lib.hid (Hno.out hv)
        clear hm hv Hno Hstep
        go_wp2_with fail
        refine Hm.out.mono ?_
        rintro e w2 ⟨rfl, hb2⟩
        go_wp2
        go_ret
        exact ⟨by rw [hf.out]; rfl, hB.trans (hb2.mono hsz)⟩
      | true =>
        rw [hv] at hm
        have Hm := Lib.hid hm
        have hk3 : Hid (allM n stack ca re inn (s + 1) = true) := by show _ = _; rw [Hstep.out]; exact hv
        clear hm hv Hno Hstep
        go_wp2_with fail
        refine Hm.out.mono ?_
        rintro e w2 ⟨rfl, hb2⟩
        have hbx2 := hbx.later hb2
        have hB2 := hB.trans (hb2.mono hsz)
        go_wp2
        go_roundw
        case rel => exact ⟨s + 1, by omega, by go_num, hk3, hB2, hbx2⟩
        case measure => simp [intOf]; omega
    · have e : s = n := by omega
      subst e
      go_wp2
      go_ret
      exact ⟨by rw [hA.out]; rfl, hB⟩
end Go.Proofs.Yticmekdfdilcpaa
