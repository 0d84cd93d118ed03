/- What a valid rewriter is; the model's check of one. -/
import Derived.Test.YtmkamodmnplclaaVaM
import Derived.Test.YtmkamodmnplclaaRwPut
import Derived.Test.YtmkamodmnplclaaPlRM
import Derived.Test.YtmkamodmnplclaaBox5
import Derived.BigQuiet
import Derived.Deep.Cut
namespace Go.Proofs.Ytmkamodmnplclaa
open Go.RowKit
set_option linter.unusedVariables false

def restB (c : Rw) : Bool := c.call.all (rowB (opB c.call.length c.stack) 2) && (c.inner.all (rowB (omB c.call.length) 2) && c.ret.all (rowB (rowB (omB c.call.length) (c.stack + 1)) 2))
/-- Whether a rewriter is valid. -/
def okR (c : Rw) : Bool := inB 1 8 c.call.length && (inB 1 8 c.stack && (inB 0 ((c.call.length : Int) - 1) c.start && (decide (c.ret.length = c.call.length) && (decide (c.inner.length = c.call.length) && restB c))))
structure RestTake (c : Rw) (k : Nat) : Prop where
  call : (c.call.take k).all (rowB (opB c.call.length c.stack) 2) = true
  inner : (c.inner.take k).all (rowB (omB c.call.length) 2) = true
  ret : (c.ret.take k).all (rowB (rowB (omB c.call.length) (c.stack + 1)) 2) = true
theorem RestTake.zero (c : Rw) : RestTake c 0 := ⟨rfl, rfl, rfl⟩
theorem RestTake.next {c : Rw} {k : Nat} {x y z} (h : RestTake c k) (hx : c.call[k]? = some x) (hy : c.inner[k]? = some y) (hz : c.ret[k]? = some z) (h1 : rowB (opB c.call.length c.stack) 2 x = true) (h2 : rowB (omB c.call.length) 2 y = true) (h3 : rowB (rowB (omB c.call.length) (c.stack + 1)) 2 z = true) : RestTake c (k + 1) :=
  ⟨all_take hx h.call h1, all_take hy h.inner h2, all_take hz h.ret h3⟩
theorem RestTake.all {c : Rw} (h : RestTake c c.call.length) (h1 : c.ret.length = c.call.length) (h2 : c.inner.length = c.call.length) : restB c = true := by
  have a := h.call
  have b := h.inner
  have d := h.ret
  rw [List.take_length] at a
  rw [← h2, List.take_length, h2] at b
  rw [← h1, List.take_length, h1] at d
  rw [restB, a, b, d]; rfl
theorem rest_no1 {c : Rw} {k : Nat} {x} (hx : c.call[k]? = some x) (h : rowB (opB c.call.length c.stack) 2 x = false) : restB c = false := by
  rw [restB, all_no hx h, Bool.false_and]
theorem rest_no2 {c : Rw} {k : Nat} {x} (hx : c.inner[k]? = some x) (h : rowB (omB c.call.length) 2 x = false) : restB c = false := by
  rw [restB, all_no hx h, Bool.false_and, Bool.and_false]
theorem rest_no3 {c : Rw} {k : Nat} {x} (hx : c.ret[k]? = some x) (h : rowB (rowB (omB c.call.length) (c.stack + 1)) 2 x = false) : restB c = false := by
  rw [restB, all_no hx h, Bool.and_false, Bool.and_false]
theorem rowB_len {α : Type} {p : α → Bool} {k : Int} {xs : List α} (h : ((xs.length : Int) = k → False)) : rowB p k xs = false := by
  rw [rowB, decide_eq_false h, Bool.and_false]
theorem rowB_all {α : Type} {p : α → Bool} {xs : List α} {j : Nat} {x : α} (k : Int) (h : xs[j]? = some x) (hx : p x = false) : rowB p k xs = false := by
  rw [rowB, all_no h hx, Bool.false_and]
theorem rowB_yes {α : Type} {p : α → Bool} {xs : List α} (h : (xs.take 2).all p = true) (hl : xs.length = 2) : rowB p 2 xs = true := by
  rw [← hl, List.take_length] at h
  rw [rowB, h, Bool.true_and, decide_eq_true (by omega)]
/-- The rows of one state, read through the box. -/
theorem RwAt.state {base b k : Nat} {X : World} {c : Rw} {b1 b2 b3 : List Nat} {row : List (Int × Int × ByteArray)} {lists : List (List (Int × ByteArray))} {inn : List (Int × ByteArray)} (h : RwAt base X b c b1 b2 b3) (h0 : c.call[k]? = some row) (h1 : c.ret[k]? = some lists) (h2 : c.inner[k]? = some inn) :
    ∃ g0 k0 g1 k1 g2 k2 B0 j0 B1 j1 B2 j2 cs, Bx X b 36 #[.int .i64 c.stack, .int .i64 c.start, .slice (some ⟨g0, 0, none⟩) c.call.length k0, .slice (some ⟨g1, 0, none⟩) c.ret.length k1, .slice (some ⟨g2, 0, none⟩) c.inner.length k2] ∧
      X.cell? ⟨g0, k, none⟩ = some (.slice B0 row.length j0) ∧ X.cell? ⟨g1, k, none⟩ = some (.slice B1 lists.length j1) ∧ X.cell? ⟨g2, k, none⟩ = some (.slice B2 inn.length j2) ∧ OmE base X (.slice B2 inn.length j2) inn cs ∧
      (∃ cs, OpE base X (.slice B0 row.length j0) row cs) ∧ (∃ cs, Om2E base X (.slice B1 lists.length j1) lists cs) := by
  obtain ⟨v0, v1, v2, xb, f0, f1, f2⟩ := h.ex
  obtain ⟨g0, k0, u0, cs0, rfl, hc0, hE0, _, _⟩ := ManyE.at_ f0 (op_ok _) h0
  obtain ⟨g1, k1, u1, cs1, rfl, hc1, hE1, _, _⟩ := ManyE.at_ f1 (om2_ok _) h1
  obtain ⟨g2, k2, u2, cs2, rfl, hc2, hE2, _, _⟩ := ManyE.at_ f2 (om_ok _) h2
  obtain ⟨B0, j0, rfl⟩ := RowE.slice hE0
  obtain ⟨B1, j1, rfl⟩ := ManyE.slice hE1
  obtain ⟨B2, j2, rfl⟩ := RowE.slice hE2
  exact ⟨g0, k0, g1, k1, g2, k2, B0, j0, B1, j1, B2, j2, cs2, xb, hc0, hc1, hc2, hE2, ⟨_, hE0⟩, ⟨_, hE1⟩⟩

set_option maxHeartbeats 12800000 in
set_option maxRecDepth 100000 in
theorem spec_okR_no1 {base b : Nat} {c : Rw} {b1 b2 b3 : List Nat} (w : World) (hc : BdRw c) (h : RwAt base w b c b1 b2 b3) (h1 : inB 1 8 c.call.length = false) :
    Calls Try.prog 70 #[.pointer (some ⟨b, 0, none⟩)] w (SeenPost (.bool false) w) := by
  obtain ⟨v0, v1, v2, xb, f0, f1, f2⟩ := h.ex
  obtain ⟨A0, k0, rfl⟩ := ManyE.slice f0
  obtain ⟨A1, k1, rfl⟩ := ManyE.slice f1
  obtain ⟨A2, k2, rfl⟩ := ManyE.slice f2
  obtain ⟨c0, c1, c2, c3, c4, cl⟩ := id xb.all5
  have H1 := Lib.hid (fun w => spec_in c.call.length 1 8 w)
  rw [h1] at H1
  have g1 := hc.call.1
  have g2 := hc.ret.1
  have g3 := hc.inner.1
  clear h1 f0 f1 f2 xb h hc
  generalize c.call.length = n at *
  generalize c.ret.length = p at *
  generalize c.inner.length = q at *
  generalize c.stack = m at *
  generalize c.start = z at *
  go_enter Try.func70, Try.ntmps70
  go_wp2_with fail
  refine (H1.out _).mono ?_
  rintro e w' ⟨rfl, rfl⟩
  go_wp2
  go_ret
  exact ⟨rfl, Below.refl _ _⟩
set_option maxHeartbeats 12800000 in
set_option maxRecDepth 100000 in
theorem spec_okR_no2 {base b : Nat} {c : Rw} {b1 b2 b3 : List Nat} (w : World) (hc : BdRw c) (h : RwAt base w b c b1 b2 b3) (h1 : inB 1 8 c.call.length = true) (h2 : inB 1 8 c.stack = false) :
    Calls Try.prog 70 #[.pointer (some ⟨b, 0, none⟩)] w (SeenPost (.bool false) w) := by
  obtain ⟨v0, v1, v2, xb, f0, f1, f2⟩ := h.ex
  obtain ⟨A0, k0, rfl⟩ := ManyE.slice f0
  obtain ⟨A1, k1, rfl⟩ := ManyE.slice f1
  obtain ⟨A2, k2, rfl⟩ := ManyE.slice f2
  obtain ⟨c0, c1, c2, c3, c4, cl⟩ := id xb.all5
  have H1 := Lib.hid (fun w => spec_in c.call.length 1 8 w)
  rw [h1] at H1
  have H2 := Lib.hid (fun w => spec_in c.stack 1 8 w)
  rw [h2] at H2
  have hn := of_decide_eq_true h1
  have g1 := hc.call.1
  have g2 := hc.ret.1
  have g3 := hc.inner.1
  clear h1 h2 f0 f1 f2 xb h hc
  generalize c.call.length = n at *
  generalize c.ret.length = p at *
  generalize c.inner.length = q at *
  generalize c.stack = m at *
  generalize c.start = z at *
  go_enter Try.func70, Try.ntmps70
  go_wp2_with fail
  refine (H1.out _).mono ?_
  rintro e w' ⟨rfl, rfl⟩
  go_wp2_with fail
  refine (H2.out _).mono ?_
  rintro e w' ⟨rfl, rfl⟩
  go_wp2
  go_ret
  exact ⟨rfl, Below.refl _ _⟩
set_option maxHeartbeats 12800000 in
set_option maxRecDepth 100000 in
theorem spec_okR_no3 {base b : Nat} {c : Rw} {b1 b2 b3 : List Nat} (w : World) (hc : BdRw c) (h : RwAt base w b c b1 b2 b3) (h1 : inB 1 8 c.call.length = true) (h2 : inB 1 8 c.stack = true) (h3 : inB 0 ((c.call.length : Int) - 1) c.start = false) :
    Calls Try.prog 70 #[.pointer (some ⟨b, 0, none⟩)] w (SeenPost (.bool false) w) := by
  obtain ⟨v0, v1, v2, xb, f0, f1, f2⟩ := h.ex
  obtain ⟨A0, k0, rfl⟩ := ManyE.slice f0
  obtain ⟨A1, k1, rfl⟩ := ManyE.slice f1
  obtain ⟨A2, k2, rfl⟩ := ManyE.slice f2
  obtain ⟨c0, c1, c2, c3, c4, cl⟩ := id xb.all5
  have H1 := Lib.hid (fun w => spec_in c.call.length 1 8 w)
  rw [h1] at H1
  have H2 := Lib.hid (fun w => spec_in c.stack 1 8 w)
  rw [h2] at H2
  have hn := of_decide_eq_true h1
  have H3 := Lib.hid (fun w => spec_in c.start 0 ((c.call.length : Int) - 1) w)
  rw [h3] at H3
  have g1 := hc.call.1
  have g2 := hc.ret.1
  have g3 := hc.inner.1
  clear h1 h2 h3 f0 f1 f2 xb h hc
  generalize c.call.length = n at *
  generalize c.ret.length = p at *
  generalize c.inner.length = q at *
  generalize c.stack = m at *
  generalize c.start = z at *
  go_enter Try.func70, Try.ntmps70
  go_wp2_with fail
  refine (H1.out _).mono ?_
  rintro e w' ⟨rfl, rfl⟩
  go_wp2_with fail
  refine (H2.out _).mono ?_
  rintro e w' ⟨rfl, rfl⟩
  go_wp2_with fail
  refine (H3.out _).mono ?_
  rintro e w' ⟨rfl, rfl⟩
  go_wp2
  go_ret
  exact ⟨rfl, Below.refl _ _⟩
set_option maxHeartbeats 12800000 in
set_option maxRecDepth 100000 in
theorem spec_okR_no4 {base b : Nat} {c : Rw} {b1 b2 b3 : List Nat} (w : World) (hc : BdRw c) (h : RwAt base w b c b1 b2 b3) (h1 : inB 1 8 c.call.length = true) (h2 : inB 1 8 c.stack = true) (h3 : inB 0 ((c.call.length : Int) - 1) c.start = true) (h4 : decide (c.ret.length = c.call.length) = false) :
    Calls Try.prog 70 #[.pointer (some ⟨b, 0, none⟩)] w (SeenPost (.bool false) w) := by
  obtain ⟨v0, v1, v2, xb, f0, f1, f2⟩ := h.ex
  obtain ⟨A0, k0, rfl⟩ := ManyE.slice f0
  obtain ⟨A1, k1, rfl⟩ := ManyE.slice f1
  obtain ⟨A2, k2, rfl⟩ := ManyE.slice f2
  obtain ⟨c0, c1, c2, c3, c4, cl⟩ := id xb.all5
  have H1 := Lib.hid (fun w => spec_in c.call.length 1 8 w)
  rw [h1] at H1
  have H2 := Lib.hid (fun w => spec_in c.stack 1 8 w)
  rw [h2] at H2
  have hn := of_decide_eq_true h1
  have H3 := Lib.hid (fun w => spec_in c.start 0 ((c.call.length : Int) - 1) w)
  rw [h3] at H3
  have e4 : ((c.ret.length : Int) != (c.call.length : Int)) = true := by have := of_decide_eq_false h4; simp only [bne_iff_ne]; omega
  have e4' : ¬ ((c.ret.length : Int) = (c.call.length : Int)) := by have := of_decide_eq_false h4; omega
  have g1 := hc.call.1
  have g2 := hc.ret.1
  have g3 := hc.inner.1
  clear h1 h2 h3 h4 f0 f1 f2 xb h hc
  generalize c.call.length = n at *
  generalize c.ret.length = p at *
  generalize c.inner.length = q at *
  generalize c.stack = m at *
  generalize c.start = z at *
  go_enter Try.func70, Try.ntmps70
  go_wp2_with fail
  refine (H1.out _).mono ?_
  rintro e w' ⟨rfl, rfl⟩
  go_wp2_with fail
  refine (H2.out _).mono ?_
  rintro e w' ⟨rfl, rfl⟩
  go_wp2_with fail
  refine (H3.out _).mono ?_
  rintro e w' ⟨rfl, rfl⟩
  go_wp2
  go_ret
  exact ⟨rfl, Below.refl _ _⟩
set_option maxHeartbeats 12800000 in
set_option maxRecDepth 100000 in
theorem spec_okR_no5 {base b : Nat} {c : Rw} {b1 b2 b3 : List Nat} (w : World) (hc : BdRw c) (h : RwAt base w b c b1 b2 b3) (h1 : inB 1 8 c.call.length = true) (h2 : inB 1 8 c.stack = true) (h3 : inB 0 ((c.call.length : Int) - 1) c.start = true) (h4 : decide (c.ret.length = c.call.length) = true) (h5 : decide (c.inner.length = c.call.length) = false) :
    Calls Try.prog 70 #[.pointer (some ⟨b, 0, none⟩)] w (SeenPost (.bool false) w) := by
  obtain ⟨v0, v1, v2, xb, f0, f1, f2⟩ := h.ex
  obtain ⟨A0, k0, rfl⟩ := ManyE.slice f0
  obtain ⟨A1, k1, rfl⟩ := ManyE.slice f1
  obtain ⟨A2, k2, rfl⟩ := ManyE.slice f2
  obtain ⟨c0, c1, c2, c3, c4, cl⟩ := id xb.all5
  have H1 := Lib.hid (fun w => spec_in c.call.length 1 8 w)
  rw [h1] at H1
  have H2 := Lib.hid (fun w => spec_in c.stack 1 8 w)
  rw [h2] at H2
  have hn := of_decide_eq_true h1
  have H3 := Lib.hid (fun w => spec_in c.start 0 ((c.call.length : Int) - 1) w)
  rw [h3] at H3
  have e4 := of_decide_eq_true h4
  rw [e4] at c3
  have e5 : ((c.inner.length : Int) != (c.call.length : Int)) = true := by have := of_decide_eq_false h5; simp only [bne_iff_ne]; omega
  have e5' : ¬ ((c.inner.length : Int) = (c.call.length : Int)) := by have := of_decide_eq_false h5; omega
  have g1 := hc.call.1
  have g2 := hc.ret.1
  have g3 := hc.inner.1
  clear h1 h2 h3 h4 h5 f0 f1 f2 xb h hc
  generalize c.call.length = n at *
  generalize c.ret.length = p at *
  generalize c.inner.length = q at *
  generalize c.stack = m at *
  generalize c.start = z at *
  go_enter Try.func70, Try.ntmps70
  go_wp2_with fail
  refine (H1.out _).mono ?_
  rintro e w' ⟨rfl, rfl⟩
  go_wp2_with fail
  refine (H2.out _).mono ?_
  rintro e w' ⟨rfl, rfl⟩
  go_wp2_with fail
  refine (H3.out _).mono ?_
  rintro e w' ⟨rfl, rfl⟩
  go_wp2
  go_ret
  exact ⟨rfl, Below.refl _ _⟩
set_option maxHeartbeats 12800000 in
set_option maxRecDepth 100000 in
theorem spec_okR_rest {base b : Nat} {c : Rw} {b1 b2 b3 : List Nat} (w : World) (hc : BdRw c) (h : RwAt base w b c b1 b2 b3) (h1 : inB 1 8 c.call.length = true) (h2 : inB 1 8 c.stack = true) (h3 : inB 0 ((c.call.length : Int) - 1) c.start = true) (h4 : decide (c.ret.length = c.call.length) = true) (h5 : decide (c.inner.length = c.call.length) = true) :
    Calls Try.prog 70 #[.pointer (some ⟨b, 0, none⟩)] w (SeenPost (.bool (restB c)) w) := by
  have hn8 := of_decide_eq_true h1
  have hm8 := of_decide_eq_true h2
  have e4 := of_decide_eq_true h4
  have e5 := of_decide_eq_true h5
  have H1 := Lib.hid (fun w => spec_in c.call.length 1 8 w)
  rw [h1] at H1
  have H2 := Lib.hid (fun w => spec_in c.stack 1 8 w)
  rw [h2] at H2
  have H3 := Lib.hid (fun w => spec_in c.start 0 ((c.call.length : Int) - 1) w)
  rw [h3] at H3
  have HA := Lib.hid (fun (k : Nat) (hk : RestTake c k) (e : k = c.call.length) => RestTake.all (c := c) (e ▸ hk) e4 e5)
  have HN1 := Lib.hid (fun (k : Nat) x hx h => rest_no1 (c := c) (k := k) (x := x) hx h)
  have HN2 := Lib.hid (fun (k : Nat) x hx h => rest_no2 (c := c) (k := k) (x := x) hx h)
  have HN3 := Lib.hid (fun (k : Nat) x hx h => rest_no3 (c := c) (k := k) (x := x) hx h)
  have HC := Lib.hid hc
  have H := Lib.hid h
  have HL := Lib.hid (And.intro e4 e5)
  obtain ⟨v0, v1, v2, xb, f0, f1, f2⟩ := h.ex
  obtain ⟨A0, k0, rfl⟩ := ManyE.slice f0
  obtain ⟨A1, k1, rfl⟩ := ManyE.slice f1
  obtain ⟨A2, k2, rfl⟩ := ManyE.slice f2
  obtain ⟨c0, c1, c2, c3, c4, cl⟩ := id xb.all5
  rw [e4] at c3
  rw [e5] at c4
  obtain ⟨r, hr⟩ : ∃ r, r = restB c := ⟨_, rfl⟩
  rw [← hr] at HA HN1 HN2 HN3 ⊢
  clear h1 h2 h3 h4 h5 e4 e5 f0 f1 f2 xb h hc hr
  obtain ⟨n, hn⟩ : ∃ n, n = c.call.length := ⟨_, rfl⟩
  have Hn := Lib.hid hn
  obtain ⟨m, hm⟩ : ∃ m, m = c.stack := ⟨_, rfl⟩
  have Hm := Lib.hid hm
  rw [← hn] at hn8 c2 c3 c4 H1 H3
  rw [← hm] at hm8 c0 H2
  clear hn hm
  generalize c.start = z at c1 H3
  obtain ⟨hn1, hn2⟩ := hn8
  obtain ⟨hm1, hm2⟩ := hm8
  go_enter Try.func70, Try.ntmps70
  go_wp2_with fail
  refine (H1.out _).mono ?_
  rintro e w' ⟨rfl, rfl⟩
  go_wp2_with fail
  refine (H2.out _).mono ?_
  rintro e w' ⟨rfl, rfl⟩
  go_wp2_with fail
  refine (H3.out _).mono ?_
  rintro e w' ⟨rfl, rfl⟩
  go_wp2
  clear c0 c1 c2 c3 c4 cl
  go_loopw [4] (fun i wr => ∃ k : Nat, k ≤ n ∧ i = .int .i64 k ∧ Hid (RestTake c k) ∧ Below w.heap.size w wr) (fun i _ => n - (intOf i).toNat)
  case atStart => exact ⟨0, Nat.zero_le _, rfl, RestTake.zero _, Below.refl _ _⟩
  case round =>
    obtain ⟨k, hk, rfl, hT, hB⟩ := hrel
    by_cases hlt : k < n
    case neg =>
      have e : k = n := by omega
      subst e
      have hno := Lib.hid (HA.out k hT.out Hn.out)
      have R := H.out.later hB
      obtain ⟨v0, v1, v2, xb, f0, f1, f2⟩ := R.ex
      clear R f0 f1 f2 xb hT
      go_wp2
      go_ret
      exact ⟨by rw [hno.out]; rfl, hB⟩
    have hkn : k < c.call.length := by rw [← Hn.out]; exact hlt
    obtain ⟨row, h0⟩ : ∃ x, c.call[k]? = some x := ⟨_, List.getElem?_eq_getElem hkn⟩
    obtain ⟨lists, h1⟩ : ∃ x, c.ret[k]? = some x := ⟨_, List.getElem?_eq_getElem (by rw [HL.out.1]; exact hkn)⟩
    obtain ⟨inn, h2⟩ : ∃ x, c.inner[k]? = some x := ⟨_, List.getElem?_eq_getElem (by rw [HL.out.2]; exact hkn)⟩
    have hs := hB.size
    obtain ⟨g0, j0, g1, j1, g2, j2, B0, i0, B1, i1, B2, i2, cs, xb, d0, d1, d2, hE2, ⟨cs0, hE0⟩, ⟨cs1, hE1⟩⟩ := (H.out.later hB).state h0 h1 h2
    obtain ⟨c0, c1, c2, c3, c4, cl⟩ := id xb.all5
    rw [HL.out.1, ← Hn.out] at c3
    rw [HL.out.2, ← Hn.out] at c4
    rw [← Hn.out] at c2
    rw [← Hm.out] at c0
    have hR := Lib.hid (H.out.later hB)
    have hbi := (HC.out.inner.2 inn (List.mem_of_getElem? h2))
    have hbr := (HC.out.call.2 row (List.mem_of_getElem? h0))
    have hbl := (HC.out.ret.2 lists (List.mem_of_getElem? h1))
    have HM := Lib.hid (fun W (x : OmE base W (.slice B2 inn.length i2) inn cs) => spec_moves (m := 2) W (by omega : 1 ≤ n ∧ n ≤ 8) hbi x)
    have HE2 := Lib.hid hE2
    have hi2 : inn.length ≤ 1048576 := hbi
    have hi0 : row.length ≤ 1048576 := hbr
    have hi1 : lists.length ≤ 1048576 := hbl.1
    have HK := Lib.hid (And.intro hbl (And.intro h0 (And.intro h1 (And.intro h2 (And.intro hE0 hE1)))))
    clear xb hE2 hE0 hE1 h0 h1 h2 hbi hbr hbl hkn
    by_cases l0 : row.length = 2
    case neg =>
      have hno := Lib.hid (HN1.out k row HK.out.2.1 (rowB_len (by omega)))
      have b0 : ((row.length : Int) != 2) = true := by simp only [bne_iff_ne]; omega
      have b0' : ¬ ((row.length : Int) = 2) := by omega
      go_wp2
      go_ret
      exact ⟨by rw [hno.out]; rfl, hB⟩
    by_cases l1 : lists.length = 2
    case neg =>
      have hno := Lib.hid (HN3.out k lists HK.out.2.2.1 (rowB_len (by omega)))
      have b0 : ((lists.length : Int) != 2) = true := by simp only [bne_iff_ne]; omega
      have b0' : ¬ ((lists.length : Int) = 2) := by omega
      rw [l0] at d0
      go_wp2
      go_ret
      exact ⟨by rw [hno.out]; rfl, hB⟩
    rw [l0] at d0
    rw [l1] at d1
    cases hq : rowB (omB n) 2 inn with
    | false =>
      rw [hq] at HM
      have hno := Lib.hid (HN2.out k inn HK.out.2.2.2.1 (by rw [← Hn.out]; exact hq))
      go_wp2_with fail
      refine (HM.out _ HE2.out).mono ?_
      rintro e w' ⟨rfl, rfl⟩
      go_wp2
      go_ret
      exact ⟨by rw [hno.out]; rfl, hB⟩
    | true =>
      rw [hq] at HM
      have HQ := Lib.hid hq
      have HLL := Lib.hid (And.intro l0 l1)
      clear hq l0 l1
      go_wp2_with fail
      refine (HM.out _ HE2.out).mono ?_
      rintro e w' ⟨rfl, rfl⟩
      go_wp2
      clear HM HE2 c0 c1 c2 c3 c4 cl d0 d1 d2
      generalize wr = wo at *
      go_loopw [5] (fun i wr2 => ∃ j : Nat, j ≤ 2 ∧ i = .int .i64 j ∧ Hid ((row.take j).all (opB n m) = true ∧ (lists.take j).all (rowB (omB n) (m + 1)) = true) ∧ Below wo.heap.size wo wr2) (fun i _ => 2 - (intOf i).toNat)
      case atStart => exact ⟨0, Nat.zero_le _, rfl, ⟨rfl, rfl⟩, Below.refl _ _⟩
      case round =>
        obtain ⟨j, hj, rfl, hA2, hB2⟩ := hrel
        have hs2 := hB2.size
        by_cases hlt2 : j < 2
        case neg =>
          have e : j = 2 := by omega
          subst e
          have hnx := Lib.hid (hT.out.next HK.out.2.1 HK.out.2.2.2.1 HK.out.2.2.1 (by rw [← Hn.out, ← Hm.out]; exact rowB_yes hA2.out.1 HLL.out.1) (by rw [← Hn.out]; exact HQ.out) (by rw [← Hn.out, ← Hm.out]; exact rowB_yes hA2.out.2 HLL.out.2))
          have hBn := Lib.hid (hB.trans (hB2.mono hs))
          clear hB2 hA2 hT
          go_wp2
          go_roundw
          case rel => exact ⟨k + 1, by omega, by go_num, hnx, hBn.out⟩
          case measure => simp [intOf]; omega
        obtain ⟨p, hp⟩ : ∃ x, row[j]? = some x := ⟨_, List.getElem?_eq_getElem (by rw [HLL.out.1]; exact hlt2)⟩
        obtain ⟨l, hl⟩ : ∃ x, lists[j]? = some x := ⟨_, List.getElem?_eq_getElem (by rw [HLL.out.2]; exact hlt2)⟩
        have hbl := HK.out.1.2 l (List.mem_of_getElem? hl)
        obtain ⟨g0, j0, g1, j1, g2, j2, B0, i0, B1, i1, B2, i2, cs, xb, d0, d1, d2, hE2, ⟨cs0, hE0⟩, ⟨cs1, hE1⟩⟩ := (hR.out.later hB2).state HK.out.2.1 HK.out.2.2.1 HK.out.2.2.2.1
        obtain ⟨c0, c1, c2, c3, c4, cl⟩ := id xb.all5
        rw [HLL.out.1] at d0 hE0
        rw [← Hn.out] at c2
        obtain ⟨G, rfl, hG, _⟩ := RowE.head hE0 (by rw [HLL.out.1]; exact hlt2)
        obtain ⟨p0, p1, p2⟩ := OpE.cell' hE0 hp
        obtain ⟨x0, x1, x2⟩ := p
        dsimp only at p0 p1 p2
        have hA3 := (Below.refl wr.heap.size wr).alloc (Nat.le_refl _) (.cells #[.int .i64 x0, .int .i64 x1, .string x2] 75)
        have y := Bx.new wr 75 #[.int .i64 x0, .int .i64 x1, .string x2]
        obtain ⟨W3, hW3⟩ : ∃ x, x = wr.alloc (.cells #[.int .i64 x0, .int .i64 x1, .string x2] 75) := ⟨_, rfl⟩
        rw [← hW3] at hA3 y
        have HW3 := Lib.hid hW3
        have HP := Lib.hid (And.intro hp hl)
        have HB3 := Lib.hid (hB2.trans (hA3.mono hs2))
        have HY := Lib.hid y
        clear hW3 hA3 y xb hE2 hE0 hE1 hp hl c0 c1 c3 c4 d1 d2
        go_upto_region 13 with fail
        rw [← HW3.out]
        clear c2 d0 p0 p1 p2 cl hG
        obtain ⟨g0, j0, g1, j1, g2, j2, B0, i0, B1, i1, B2, i2, cs, xb, d0, d1, d2, hE2, ⟨cs0, hE0⟩, ⟨cs1, hE1⟩⟩ := (hR.out.later HB3.out).state HK.out.2.1 HK.out.2.2.1 HK.out.2.2.2.1
        obtain ⟨c0, c1, c2, c3, c4, cl⟩ := id xb.all5
        obtain ⟨y0, y1, y2, yl⟩ := id HY.out.all3
        obtain ⟨G1, kk, u, csl, e1, hcl, hEl, hG1, _⟩ := ManyE.at_ hE1 (om_ok _) HP.out.2
        obtain ⟨L, il, rfl⟩ := RowE.slice hEl
        simp only [Value.slice.injEq] at e1
        obtain ⟨rfl, _, rfl⟩ := e1
        rw [← Hm.out] at c0
        rw [HL.out.1, ← Hn.out] at c3
        rw [HLL.out.2] at d1
        have hll : l.length ≤ 1048576 := hbl
        have HM := Lib.hid (fun W (x : OmE base W (.slice L l.length il) l csl) => spec_moves (m := m + 1) W (by omega : 1 ≤ n ∧ n ≤ 8) hbl x)
        have HEl := Lib.hid (fun q => show OmE base (W3.drewN q) _ _ _ from (om_ok _).kept hEl fun k _ => rfl)
        have HIn := Lib.hid (fun x a b w => spec_in x a b w)
        have HOut := Lib.hid (fun t w => spec_out t w)
        clear xb d0 d2 hE2 hE0 hE1 hEl c1 c2 c4 hbl
        cases f1 : inB 0 ((n : Int) - 1) x0 with
        | false =>
          have hno := Lib.hid (HN1.out k row HK.out.2.1 (by rw [← Hn.out, ← Hm.out]; exact rowB_all 2 HP.out.1 (by simp only [opB, f1, Bool.false_and])))
          go_quiet (first | (go_at_call 115; exact Calls.quiet_of_same ((HIn.out _ _ _ _).mono fun e w' h => ⟨h.1, h.2.symm⟩)) | (go_at_call 117; exact Calls.quiet_of_same ((HOut.out _ _).mono fun e w' h => ⟨h.1, h.2.symm⟩)) | (go_at_call 116; exact Calls.quiet_of_same ((HM.out _ (HEl.out _)).mono fun e w' h => ⟨h.1, h.2.symm⟩)))
          go_wp2
          go_ret
          exact ⟨by rw [hno.out]; rfl, below_drewN (hB.trans (HB3.out.mono hs)) _⟩
        | true =>
          cases f2 : inB 0 (m - 1) x1 with
          | false =>
            have hno := Lib.hid (HN1.out k row HK.out.2.1 (by rw [← Hn.out, ← Hm.out]; exact rowB_all 2 HP.out.1 (by simp only [opB, f1, f2, Bool.false_and, Bool.and_false])))
            go_quiet (first | (go_at_call 115; exact Calls.quiet_of_same ((HIn.out _ _ _ _).mono fun e w' h => ⟨h.1, h.2.symm⟩)) | (go_at_call 117; exact Calls.quiet_of_same ((HOut.out _ _).mono fun e w' h => ⟨h.1, h.2.symm⟩)) | (go_at_call 116; exact Calls.quiet_of_same ((HM.out _ (HEl.out _)).mono fun e w' h => ⟨h.1, h.2.symm⟩)))
            go_wp2
            go_ret
            exact ⟨by rw [hno.out]; rfl, below_drewN (hB.trans (HB3.out.mono hs)) _⟩
          | true =>
            cases f3 : outB x2 with
            | false =>
              have hno := Lib.hid (HN1.out k row HK.out.2.1 (by rw [← Hn.out, ← Hm.out]; exact rowB_all 2 HP.out.1 (by simp only [opB, f1, f2, f3, Bool.and_false])))
              go_quiet (first | (go_at_call 115; exact Calls.quiet_of_same ((HIn.out _ _ _ _).mono fun e w' h => ⟨h.1, h.2.symm⟩)) | (go_at_call 117; exact Calls.quiet_of_same ((HOut.out _ _).mono fun e w' h => ⟨h.1, h.2.symm⟩)) | (go_at_call 116; exact Calls.quiet_of_same ((HM.out _ (HEl.out _)).mono fun e w' h => ⟨h.1, h.2.symm⟩)))
              go_wp2
              go_ret
              exact ⟨by rw [hno.out]; rfl, below_drewN (hB.trans (HB3.out.mono hs)) _⟩
            | true =>
              cases f4 : rowB (omB n) (m + 1) l with
              | false =>
                have hno := Lib.hid (HN3.out k lists HK.out.2.2.1 (by rw [← Hn.out, ← Hm.out]; exact rowB_all 2 HP.out.2 f4))
                go_quiet (first | (go_at_call 115; exact Calls.quiet_of_same ((HIn.out _ _ _ _).mono fun e w' h => ⟨h.1, h.2.symm⟩)) | (go_at_call 117; exact Calls.quiet_of_same ((HOut.out _ _).mono fun e w' h => ⟨h.1, h.2.symm⟩)) | (go_at_call 116; exact Calls.quiet_of_same ((HM.out _ (HEl.out _)).mono fun e w' h => ⟨h.1, h.2.symm⟩)))
                go_wp2
                go_ret
                exact ⟨by rw [hno.out]; rfl, below_drewN (hB.trans (HB3.out.mono hs)) _⟩
              | true =>
                have hnx := Lib.hid (And.intro (all_take HP.out.1 hA2.out.1 (by simp only [opB, f1, f2, f3]; rfl)) (all_take HP.out.2 hA2.out.2 f4))
                go_quiet (first | (go_at_call 115; exact Calls.quiet_of_same ((HIn.out _ _ _ _).mono fun e w' h => ⟨h.1, h.2.symm⟩)) | (go_at_call 117; exact Calls.quiet_of_same ((HOut.out _ _).mono fun e w' h => ⟨h.1, h.2.symm⟩)) | (go_at_call 116; exact Calls.quiet_of_same ((HM.out _ (HEl.out _)).mono fun e w' h => ⟨h.1, h.2.symm⟩)))
                go_wp2
                go_roundw
                case rel => exact ⟨j + 1, by omega, by go_num, hnx.out, below_drewN HB3.out _⟩
                case measure => simp [intOf]; omega
theorem spec_okR {base b : Nat} {c : Rw} {b1 b2 b3 : List Nat} (w : World) (hc : BdRw c) (h : RwAt base w b c b1 b2 b3) :
    Calls Try.prog 70 #[.pointer (some ⟨b, 0, none⟩)] w (SeenPost (.bool (okR c)) w) := by
  unfold okR
  cases h1 : inB 1 8 c.call.length with
  | false => exact spec_okR_no1 w hc h h1
  | true =>
    cases h2 : inB 1 8 c.stack with
    | false => exact spec_okR_no2 w hc h h1 h2
    | true =>
      cases h3 : inB 0 ((c.call.length : Int) - 1) c.start with
      | false => exact spec_okR_no3 w hc h h1 h2 h3
      | true =>
        cases h4 : decide (c.ret.length = c.call.length) with
        | false => exact spec_okR_no4 w hc h h1 h2 h3 h4
        | true =>
          cases h5 : decide (c.inner.length = c.call.length) with
          | false => exact spec_okR_no5 w hc h h1 h2 h3 h4 h5
          | true => exact spec_okR_rest w hc h h1 h2 h3 h4 h5
/-- A rewriter put into a box. -/
theorem RwAt.boxed {base : Nat} {w : World} {v : Value} {c : Rw} {bs : List Nat} (h : RwE base w v c bs) : ∃ A0 n0 k0 A1 n1 k1 A2 n2 k2 b1 b2 b3, v = .agg #[.int .i64 c.stack, .int .i64 c.start, .slice A0 n0 k0, .slice A1 n1 k1, .slice A2 n2 k2] ∧
    RwAt 0 (w.alloc (.cells #[.int .i64 c.stack, .int .i64 c.start, .slice A0 n0 k0, .slice A1 n1 k1, .slice A2 n2 k2] 36)) w.heap.size c b1 b2 b3 := by
  obtain ⟨v0, v1, v2, b1, b2, b3, rfl, h0, h1, h2, rfl, hnd⟩ := rw_base (Nat.zero_le _) h
  obtain ⟨A0, k0, rfl⟩ := ManyE.slice h0
  obtain ⟨A1, k1, rfl⟩ := ManyE.slice h1
  obtain ⟨A2, k2, rfl⟩ := ManyE.slice h2
  refine ⟨A0, _, k0, A1, _, k1, A2, _, k2, b1, b2, b3, rfl, ?_⟩
  have hB := (Below.refl w.heap.size w).alloc (Nat.le_refl _) (.cells #[.int .i64 c.stack, .int .i64 c.start, .slice A0 c.call.length k0, .slice A1 c.ret.length k1, .slice A2 c.inner.length k2] 36)
  obtain ⟨n1, n23, d1⟩ := List.nodup_append.1 hnd
  obtain ⟨n2, n3, d2⟩ := List.nodup_append.1 n23
  refine ⟨⟨_, _, _, Bx.new w _ _, (op2_ok _).later h0 hB, (om3_ok _).later h1 hB, (om2_ok _).later h2 hB⟩, fun k hk hk2 => d1 k hk k (List.mem_append_left _ hk2) rfl, fun k hk hk2 => d1 k hk k (List.mem_append_right _ hk2) rfl, fun k hk hk2 => d2 k hk k hk2 rfl, fun hk => ?_, fun hk => ?_, fun hk => ?_, Nat.zero_le _⟩
  · exact Nat.lt_irrefl _ ((op2_ok _).lt h0 _ hk).2
  · exact Nat.lt_irrefl _ ((om3_ok _).lt h1 _ hk).2
  · exact Nat.lt_irrefl _ ((om2_ok _).lt h2 _ hk).2
theorem spec_ValidRewriter {base : Nat} {v : Value} {c : Rw} {bs : List Nat} (w : World) (hc : BdRw c) (ha : RwE base w v c bs) :
    Calls Try.prog 33 #[v] w (SeenPost (.bool (okR c)) w) := by
  obtain ⟨A0, n0, k0, A1, n1, k1, A2, n2, k2, b1, b2, b3, rfl, hat⟩ := RwAt.boxed ha
  have H := Lib.hid (spec_okR _ hc hat)
  have hB := Lib.hid ((Below.refl w.heap.size w).alloc (Nat.le_refl _) (.cells #[.int .i64 c.stack, .int .i64 c.start, .slice A0 n0 k0, .slice A1 n1 k1, .slice A2 n2 k2] 36))
  generalize okR c = r at *
  clear hat hc ha
  go_enter Try.func33, Try.ntmps33
  go_wp2_with fail
  refine H.out.mono ?_
  rintro e w1 ⟨rfl, hb⟩
  go_wp2
  go_ret
  exact ⟨rfl, hB.out.trans (hb.mono hB.out.size)⟩
end Go.Proofs.Ytmkamodmnplclaa
