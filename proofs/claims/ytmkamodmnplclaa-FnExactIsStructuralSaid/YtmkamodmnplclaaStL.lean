/- IsStructural of the program. -/
import Derived.Test.YtmkamodmnplclaaStS
import Derived.Test.YtmkamodmnplclaaVaL
namespace Go.Proofs.Ytmkamodmnplclaa
open Go.RowKit
set_option linter.unusedVariables false

set_option maxHeartbeats 12800000 in
set_option maxRecDepth 100000 in
theorem impl_struct {base : Nat} {v : Value} {c : Rw} {bs : List Nat} (w : World) (hc : BdRw c) (hv : VS c) (ha : RwE base w v c bs) :
    Calls Try.prog 79 #[v] w (SeenPost (.bool (stR c)) w) := by
  obtain ⟨v0, v1, v2, b0, b1, b2, rfl, h0, h1, h2, _, _⟩ := ha
  obtain ⟨A0, k0, rfl⟩ := ManyE.slice h0
  obtain ⟨A1, k1, rfl⟩ := ManyE.slice h1
  obtain ⟨A2, k2, rfl⟩ := ManyE.slice h2
  have hB := (Below.refl w.heap.size w).alloc (Nat.le_refl _) (.cells #[.int .i64 c.stack, .int .i64 c.start, .slice A0 c.call.length k0, .slice A1 c.ret.length k1, .slice A2 c.inner.length k2] 36)
  have x := Bx.new w 36 #[.int .i64 c.stack, .int .i64 c.start, .slice A0 c.call.length k0, .slice A1 c.ret.length k1, .slice A2 c.inner.length k2]
  obtain ⟨W1, hW1⟩ : ∃ W, W = w.alloc (.cells #[.int .i64 c.stack, .int .i64 c.start, .slice A0 c.call.length k0, .slice A1 c.ret.length k1, .slice A2 c.inner.length k2] 36) := ⟨_, rfl⟩
  rw [← hW1] at x hB
  have HW1 := Lib.hid hW1
  have HE := Lib.hid (And.intro ((op2_ok _).later h0 hB) (And.intro ((om3_ok _).later h1 hB) ((om2_ok _).later h2 hB)))
  have HC := Lib.hid hc
  have HX := Lib.hid x
  have HB := Lib.hid hB
  have HV := Lib.hid hv
  have HQ := Lib.hid (fun (k : Nat) x (hx : c.ret[k]? = some x) (h : (x.all fun row => row.all fun x => hasB 1 0 x.2) = false) => (show stR c = false by rw [stR, all_no (p := fun lists => lists.all fun row => row.all fun x => hasB 1 0 x.2) hx h, Bool.and_false, Bool.and_false]))
  have hst : (c.ret.all fun lists => lists.all fun row => row.all fun x => hasB 1 0 x.2) = true → stR c = ((c.call.all fun row => row.all fun x => hasB 0 1 x.2.2) && (c.inner.all fun row => row.all fun x => hasB 0 0 x.2)) := fun h => by rw [stR, h, Bool.and_true]
  have hT : (c.ret.take c.ret.length).all (fun lists => lists.all fun row => row.all fun x => hasB 1 0 x.2) = true → (c.ret.all fun lists => lists.all fun row => row.all fun x => hasB 1 0 x.2) = true := fun h => by rwa [List.take_length] at h
  have HT := Lib.hid (fun h => hst (hT h))
  have HI1 := Lib.hid (fun W (h : Op2E base W (.slice A0 c.call.length k0) c.call b0) => leaves_op (a := 0) (b := 1) W hc.call (fun row hr x hx => (hv.call row hr).2 x hx) h)
  have HI2 := Lib.hid (fun W (h : Om2E base W (.slice A2 c.inner.length k2) c.inner b2) => leaves_om (a := 0) (b := 0) W hc.inner (fun row hr x hx => (hv.inner row hr).2 x hx) h)
  have HI3 := Lib.hid (fun W u lists cs (hl : Bd2 lists) (hw : ∀ row ∈ lists, ∀ x ∈ row, IsW x.2) (h : Om2E base W u lists cs) => leaves_om (a := 1) (b := 0) W hl hw h)
  generalize (c.call.all fun row => row.all fun x => hasB 0 1 x.2.2) = r1 at *
  generalize (c.inner.all fun row => row.all fun x => hasB 0 0 x.2) = r2 at *
  generalize stR c = r at *
  have hp0 := hc.ret.1
  clear hst hT x hB hW1 h0 h1 h2 hc hv
  obtain ⟨p, hp⟩ : ∃ p, p = c.ret.length := ⟨_, rfl⟩
  have Hp := Lib.hid hp
  rw [← hp] at HX HE HT HW1 hp0 ⊢
  clear hp
  generalize c.call.length = n at *
  generalize c.inner.length = q at *
  generalize c.start = z at *
  generalize c.stack = m at *
  go_enter Try.func79, Try.ntmps79
  go_wp2
  rw [← HW1.out]
  go_loopw [8] (fun i wr => ∃ k : Nat, k ≤ p ∧ i = .int .i64 k ∧ Hid ((c.ret.take k).all (fun lists => lists.all fun row => row.all fun x => hasB 1 0 x.2) = true) ∧ Below W1.heap.size W1 wr) (fun i _ => p - (intOf i).toNat)
  case atStart => exact ⟨0, Nat.zero_le _, rfl, rfl, Below.refl _ _⟩
  case round =>
    obtain ⟨k, hk, rfl, hA, hBr⟩ := hrel
    have hs := hBr.size
    obtain ⟨c0, c1, c2, c3, c4, cl⟩ := id (HX.out.later hBr).all5
    by_cases hlt : k < p
    · obtain ⟨x, hx⟩ : ∃ x, c.ret[k]? = some x := ⟨_, List.getElem?_eq_getElem (by rw [← Hp.out]; exact hlt)⟩
      obtain ⟨g, cc, u, cs, e1, hc1, hE, _, _⟩ := ManyE.at_ ((om3_ok _).later HE.out.2.1 hBr) (om2_ok _) hx
      simp only [Value.slice.injEq] at e1
      obtain ⟨rfl, e2, rfl⟩ := e1
      have hm := List.mem_of_getElem? hx
      have ht := HI3.out wr u x cs (HC.out.ret.2 x hm) (HV.out.ret x hm).2 hE
      clear e2 hE hm
      cases hb : (x.all fun row => row.all fun x => hasB 1 0 x.2) with
      | true =>
        rw [hb] at ht
        have Ht := Lib.hid ht
        have hnx := Lib.hid (all_take (p := fun lists => lists.all fun row => row.all fun x => hasB 1 0 x.2) hx hA.out hb)
        clear hx hA ht hb
        go_wp2_with fail
        refine Ht.out.mono ?_
        rintro e w2 ⟨rfl, hb2⟩
        go_wp2
        go_roundw
        case rel => exact ⟨k + 1, by omega, by go_num, hnx, hBr.trans (hb2.mono hs)⟩
        case measure => simp [intOf]; omega
      | false =>
        rw [hb] at ht
        have Ht := Lib.hid ht
        have hno := Lib.hid (HQ.out k x hx hb)
        clear hx hA ht hb
        go_wp2_with fail
        refine Ht.out.mono ?_
        rintro e w2 ⟨rfl, hb2⟩
        go_wp2
        go_ret
        exact ⟨by rw [hno.out]; rfl, HB.out.trans ((hBr.trans (hb2.mono hs)).mono HB.out.size)⟩
    · have e : k = p := by omega
      subst e
      have hyes := Lib.hid (HT.out hA.out)
      have H5 := Lib.hid (HI1.out wr ((op2_ok _).later HE.out.1 hBr))
      clear hA
      cases r1 with
      | false =>
        go_wp2_with fail
        refine H5.out.mono ?_
        rintro e w2 ⟨rfl, hb2⟩
        go_wp2
        go_ret
        exact ⟨by rw [hyes.out]; rfl, HB.out.trans ((hBr.trans (hb2.mono hs)).mono HB.out.size)⟩
      | true =>
        go_wp2_with fail
        refine H5.out.mono ?_
        rintro e w2 ⟨rfl, hb2⟩
        have hB2 := hBr.trans (hb2.mono hs)
        clear c0 c1 c2 c3 c4 cl
        obtain ⟨c0, c1, c2, c3, c4, cl⟩ := id (HX.out.later hB2).all5
        have H6 := Lib.hid (HI2.out w2 ((om2_ok _).later HE.out.2.2 hB2))
        go_wp2_with fail
        refine H6.out.mono ?_
        rintro e w3 ⟨rfl, hb3⟩
        go_wp2
        go_ret
        exact ⟨by rw [hyes.out]; simp, HB.out.trans ((hB2.trans (hb3.mono hB2.size)).mono HB.out.size)⟩
end Go.Proofs.Ytmkamodmnplclaa
