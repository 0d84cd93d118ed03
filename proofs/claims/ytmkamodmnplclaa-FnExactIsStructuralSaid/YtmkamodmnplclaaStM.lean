/- Structural rewriters: the model's check. -/
import Derived.Test.YtmkamodmnplclaaStS
namespace Go.Proofs.Ytmkamodmnplclaa
open Go.RowKit
set_option linter.unusedVariables false

structure StTake (c : Rw) (k : Nat) : Prop where
  call : (c.call.take k).all (fun row => row.all fun x => hasB 0 1 x.2.2) = true
  inner : (c.inner.take k).all (fun row => row.all fun x => hasB 0 0 x.2) = true
  ret : (c.ret.take k).all (fun lists => lists.all fun row => row.all fun x => hasB 1 0 x.2) = true
theorem StTake.zero (c : Rw) : StTake c 0 := ⟨rfl, rfl, rfl⟩
theorem StTake.next {c : Rw} {k : Nat} {x y z} (h : StTake c k) (hx : c.call[k]? = some x) (hy : c.inner[k]? = some y) (hz : c.ret[k]? = some z) (h1 : x.all (fun x => hasB 0 1 x.2.2) = true) (h2 : y.all (fun x => hasB 0 0 x.2) = true) (h3 : z.all (fun row => row.all fun x => hasB 1 0 x.2) = true) : StTake c (k + 1) :=
  ⟨all_take (p := (fun row => row.all fun x => hasB 0 1 x.2.2)) hx h.call h1, all_take (p := (fun row => row.all fun x => hasB 0 0 x.2)) hy h.inner h2, all_take (p := (fun lists => lists.all fun row => row.all fun x => hasB 1 0 x.2)) hz h.ret h3⟩
theorem StTake.all {c : Rw} (h : StTake c c.call.length) (hv : VS c) : stR c = true := by
  have a := h.call
  have b := h.inner
  have d := h.ret
  rw [List.take_length] at a
  rw [← hv.l2, List.take_length] at b
  rw [← hv.l1, List.take_length] at d
  rw [stR, a, b, d]; rfl
theorem st_no1 {c : Rw} {k j : Nat} {x p} (hx : c.call[k]? = some x) (hp : x[j]? = some p) (h : hasB 0 1 p.2.2 = false) : stR c = false := by
  rw [stR, all_no (p := (fun row => row.all fun x => hasB 0 1 x.2.2)) hx (all_no (p := (fun x => hasB 0 1 x.2.2)) hp h), Bool.false_and]
theorem st_no2 {c : Rw} {k j : Nat} {x p} (hx : c.inner[k]? = some x) (hp : x[j]? = some p) (h : hasB 0 0 p.2 = false) : stR c = false := by
  rw [stR, all_no (p := (fun row => row.all fun x => hasB 0 0 x.2)) hx (all_no (p := (fun x => hasB 0 0 x.2)) hp h), Bool.false_and, Bool.and_false]
theorem st_no3 {c : Rw} {k j s : Nat} {x l p} (hx : c.ret[k]? = some x) (hl : x[j]? = some l) (hp : l[s]? = some p) (h : hasB 1 0 p.2 = false) : stR c = false := by
  rw [stR, all_no (p := (fun lists => lists.all fun row => row.all fun x => hasB 1 0 x.2)) hx (all_no (p := (fun row => row.all fun x => hasB 1 0 x.2)) hl (all_no (p := (fun x => hasB 1 0 x.2)) hp h)), Bool.and_false, Bool.and_false]
theorem take_two {α : Type} {p : α → Bool} {xs : List α} (h : (xs.take 2).all p = true) (hl : xs.length = 2) : xs.all p = true := by
  rwa [← hl, List.take_length] at h
theorem RwAt.deep {base b k j : Nat} {X : World} {c : Rw} {b1 b2 b3 : List Nat} {row : List (Int × Int × ByteArray)} {lists : List (List (Int × ByteArray))} {inn : List (Int × ByteArray)} {p x l} (h : RwAt base X b c b1 b2 b3) (h0 : c.call[k]? = some row) (h1 : c.ret[k]? = some lists) (h2 : c.inner[k]? = some inn) (hp : row[j]? = some p) (hx : inn[j]? = some x) (hl : lists[j]? = some l) :
    ∃ g0 k0 g1 k1 g2 k2 G0 j0 G1 j1 G2 j2 L il, Bx X b 36 #[.int .i64 c.stack, .int .i64 c.start, .slice (some ⟨g0, 0, none⟩) c.call.length k0, .slice (some ⟨g1, 0, none⟩) c.ret.length k1, .slice (some ⟨g2, 0, none⟩) c.inner.length k2] ∧
      X.cell? ⟨g0, k, none⟩ = some (.slice (some ⟨G0, 0, none⟩) row.length j0) ∧ X.cell? ⟨g1, k, none⟩ = some (.slice (some ⟨G1, 0, none⟩) lists.length j1) ∧ X.cell? ⟨g2, k, none⟩ = some (.slice (some ⟨G2, 0, none⟩) inn.length j2) ∧
      X.cell? ⟨G0, j * 3 + 2, none⟩ = some (.string p.2.2) ∧ X.cell? ⟨G2, j * 2 + 1, none⟩ = some (.string x.2) ∧ X.cell? ⟨G1, j, none⟩ = some (.slice L l.length il) ∧ (∃ cs, OmE base X (.slice L l.length il) l cs) := by
  obtain ⟨g0, k0, g1, k1, g2, k2, B0, i0, B1, i1, B2, i2, cs, xb, d0, d1, d2, hE2, ⟨cs0, hE0⟩, ⟨cs1, hE1⟩⟩ := h.state h0 h1 h2
  obtain ⟨G0, rfl, _, _⟩ := RowE.head hE0 (List.getElem?_eq_some_iff.1 hp).1
  obtain ⟨G2, rfl, _, _⟩ := RowE.head hE2 (List.getElem?_eq_some_iff.1 hx).1
  obtain ⟨G1, kk, u, csl, e1, hcl, hEl, _, _⟩ := ManyE.at_ hE1 (om_ok _) hl
  obtain ⟨L, il, rfl⟩ := RowE.slice hEl
  simp only [Value.slice.injEq] at e1
  obtain ⟨rfl, _, rfl⟩ := e1
  exact ⟨g0, k0, g1, k1, g2, k2, G0, i0, G1, i1, G2, i2, L, il, xb, d0, d1, d2, (OpE.cell' hE0 hp).2.2, (OmE.cell' hE2 hx).2, hcl, ⟨_, hEl⟩⟩

set_option maxHeartbeats 12800000 in
set_option maxRecDepth 100000 in
theorem spec_struct {base b : Nat} {c : Rw} {b1 b2 b3 : List Nat} (w : World) (hc : BdRw c) (hv : VS c) (h : RwAt base w b c b1 b2 b3) :
    Calls Try.prog 78 #[.pointer (some ⟨b, 0, none⟩)] w (SeenPost (.bool (stR c)) w) := by
  have HV := Lib.hid hv
  have HC := Lib.hid hc
  have H := Lib.hid h
  have HA := Lib.hid (fun (hk : StTake c c.call.length) => hk.all hv)
  have HN1 := Lib.hid (fun (k j : Nat) x p hx hp h => st_no1 (c := c) (k := k) (j := j) (x := x) (p := p) hx hp h)
  have HN2 := Lib.hid (fun (k j : Nat) x p hx hp h => st_no2 (c := c) (k := k) (j := j) (x := x) (p := p) hx hp h)
  have HN3 := Lib.hid (fun (k j s : Nat) x l p hx hl hp h => st_no3 (c := c) (k := k) (j := j) (s := s) (x := x) (l := l) (p := p) hx hl hp h)
  have hn0 := hc.call.1
  obtain ⟨r, hr⟩ : ∃ r, r = stR c := ⟨_, rfl⟩
  rw [← hr] at HA HN1 HN2 HN3 ⊢
  obtain ⟨n, hn⟩ : ∃ n, n = c.call.length := ⟨_, rfl⟩
  have Hn := Lib.hid hn
  rw [← hn] at hn0
  clear hr hn h hc hv
  go_enter Try.func78, Try.ntmps78
  go_wp2
  go_loopw [3] (fun i wr => ∃ k : Nat, k ≤ n ∧ i = .int .i64 k ∧ Hid (StTake c k) ∧ Below w.heap.size w wr) (fun i _ => n - (intOf i).toNat)
  case atStart => exact ⟨0, Nat.zero_le _, rfl, StTake.zero _, Below.refl _ _⟩
  case round =>
    obtain ⟨k, hk, rfl, hT, hB⟩ := hrel
    have hs := hB.size
    have hR := Lib.hid (H.out.later hB)
    obtain ⟨v0, v1, v2, xb, f0, f1, f2⟩ := hR.out.ex
    obtain ⟨A0, k0, rfl⟩ := ManyE.slice f0
    obtain ⟨c0, c1, c2, c3, c4, cl⟩ := id xb.all5
    rw [← Hn.out] at c2
    clear xb f0 f1 f2
    by_cases hlt : k < n
    case neg =>
      have e : k = n := by omega
      subst e
      have hno := Lib.hid (HA.out (by rw [← Hn.out]; exact hT.out))
      clear hT
      go_wp2
      go_ret
      exact ⟨by rw [hno.out]; rfl, hB⟩
    have hkn : k < c.call.length := by rw [← Hn.out]; exact hlt
    obtain ⟨row, h0⟩ : ∃ x, c.call[k]? = some x := ⟨_, List.getElem?_eq_getElem hkn⟩
    obtain ⟨lists, h1⟩ : ∃ x, c.ret[k]? = some x := ⟨_, List.getElem?_eq_getElem (by rw [HV.out.l1]; exact hkn)⟩
    obtain ⟨inn, h2⟩ : ∃ x, c.inner[k]? = some x := ⟨_, List.getElem?_eq_getElem (by rw [HV.out.l2]; exact hkn)⟩
    have HK := Lib.hid (And.intro h0 (And.intro h1 h2))
    have HLL := Lib.hid (And.intro (HV.out.call row (List.mem_of_getElem? h0)).1 (And.intro (HV.out.ret lists (List.mem_of_getElem? h1)).1 (HV.out.inner inn (List.mem_of_getElem? h2)).1))
    have HWD := Lib.hid (And.intro (HV.out.call row (List.mem_of_getElem? h0)).2 (And.intro (HV.out.ret lists (List.mem_of_getElem? h1)).2 (HV.out.inner inn (List.mem_of_getElem? h2)).2))
    have HBL := Lib.hid (HC.out.ret.2 lists (List.mem_of_getElem? h1))
    clear h0 h1 h2 hkn
    go_wp2
    clear c0 c1 c2 c3 c4 cl
    generalize wr = wo at *
    go_loopw [4] (fun i wr2 => ∃ j : Nat, j ≤ 2 ∧ i = .int .i64 j ∧ Hid ((row.take j).all (fun x => hasB 0 1 x.2.2) = true ∧ (inn.take j).all (fun x => hasB 0 0 x.2) = true ∧ (lists.take j).all (fun row => row.all fun x => hasB 1 0 x.2) = true) ∧ Below wo.heap.size wo wr2) (fun i _ => 2 - (intOf i).toNat)
    case atStart => exact ⟨0, Nat.zero_le _, rfl, ⟨rfl, rfl, rfl⟩, Below.refl _ _⟩
    case round =>
      obtain ⟨j, hj, rfl, hA2, hB2⟩ := hrel
      have hs2 := hB2.size
      by_cases hlt2 : j < 2
      case neg =>
        have e : j = 2 := by omega
        subst e
        have hnx := Lib.hid (hT.out.next HK.out.1 HK.out.2.2 HK.out.2.1 (take_two hA2.out.1 HLL.out.1) (take_two hA2.out.2.1 HLL.out.2.2) (take_two hA2.out.2.2 HLL.out.2.1))
        have hBn := Lib.hid (hB.trans (hB2.mono hs))
        clear hB2 hA2 hT
        go_wp2
        go_roundw
        case rel => exact ⟨k + 1, by omega, by go_num, hnx, hBn.out⟩
        case measure => simp [intOf]; omega
      obtain ⟨p, hp⟩ : ∃ x, row[j]? = some x := ⟨_, List.getElem?_eq_getElem (by rw [HLL.out.1]; exact hlt2)⟩
      obtain ⟨x, hx⟩ : ∃ x, inn[j]? = some x := ⟨_, List.getElem?_eq_getElem (by rw [HLL.out.2.2]; exact hlt2)⟩
      obtain ⟨l, hl⟩ : ∃ x, lists[j]? = some x := ⟨_, List.getElem?_eq_getElem (by rw [HLL.out.2.1]; exact hlt2)⟩
      have HP := Lib.hid (And.intro hp (And.intro hx hl))
      have H1 := Lib.hid (fun W => spec_has p.2.2 0 1 W (HWD.out.1 p (List.mem_of_getElem? hp)))
      have H2 := Lib.hid (fun W => spec_has x.2 0 0 W (HWD.out.2.2 x (List.mem_of_getElem? hx)))
      have HL3 := Lib.hid (HWD.out.2.1 l (List.mem_of_getElem? hl))
      have hll : l.length ≤ 1048576 := HBL.out.2 l (List.mem_of_getElem? hl)
      clear hp hx hl
      obtain ⟨g0, k0, g1, k1, g2, k2, G0, j0, G1, j1, G2, j2, L, il, xb, d0, d1, d2, p2, x1, hcl, ⟨cs, hEl⟩⟩ := (hR.out.later hB2).deep HK.out.1 HK.out.2.1 HK.out.2.2 HP.out.1 HP.out.2.1 HP.out.2.2
      obtain ⟨c0, c1, c2, c3, c4, cl⟩ := id xb.all5
      rw [HV.out.l1, ← Hn.out] at c3
      rw [HV.out.l2, ← Hn.out] at c4
      rw [← Hn.out] at c2
      rw [HLL.out.1] at d0
      rw [HLL.out.2.1] at d1
      rw [HLL.out.2.2] at d2
      cases f1 : hasB 0 1 p.2.2 with
      | false =>
        rw [f1] at H1
        have hno := Lib.hid (HN1.out k j row p HK.out.1 HP.out.1 f1)
        clear f1
        go_wp2_with fail
        refine (H1.out _).mono ?_
        rintro e w1 ⟨rfl, hb1⟩
        go_wp2
        go_ret
        exact ⟨by rw [hno.out]; rfl, hB.trans ((hB2.trans (hb1.mono hs2)).mono hs)⟩
      | true =>
      rw [f1] at H1
      have F1 := Lib.hid f1
      clear f1
      go_wp2_with fail
      refine (H1.out _).mono ?_
      rintro e w1 ⟨rfl, hb1⟩
      have hB3 := hB2.trans (hb1.mono hs2)
      clear xb d0 d1 d2 p2 x1 hcl hEl c0 c1 c2 c3 c4 cl
      obtain ⟨g0, k0, g1, k1, g2, k2, G0, j0, G1, j1, G2, j2, L, il, xb, d0, d1, d2, p2, x1, hcl, ⟨cs, hEl⟩⟩ := (hR.out.later hB3).deep HK.out.1 HK.out.2.1 HK.out.2.2 HP.out.1 HP.out.2.1 HP.out.2.2
      obtain ⟨c0, c1, c2, c3, c4, cl⟩ := id xb.all5
      rw [HV.out.l1, ← Hn.out] at c3
      rw [HV.out.l2, ← Hn.out] at c4
      rw [← Hn.out] at c2
      rw [HLL.out.1] at d0
      rw [HLL.out.2.1] at d1
      rw [HLL.out.2.2] at d2
      cases f2 : hasB 0 0 x.2 with
      | false =>
        rw [f2] at H2
        have hno := Lib.hid (HN2.out k j inn x HK.out.2.2 HP.out.2.1 f2)
        clear f2
        go_wp2_with fail
        refine (H2.out _).mono ?_
        rintro e w2 ⟨rfl, hb2⟩
        go_wp2
        go_ret
        exact ⟨by rw [hno.out]; rfl, hB.trans ((hB3.trans (hb2.mono hB3.size)).mono hs)⟩
      | true =>
      rw [f2] at H2
      have F2 := Lib.hid f2
      clear f2
      go_wp2_with fail
      refine (H2.out _).mono ?_
      rintro e w2 ⟨rfl, hb2⟩
      have HB4 := Lib.hid (hB3.trans (hb2.mono hB3.size))
      clear xb d0 d1 d2 p2 x1 hcl hEl c0 c1 c2 c3 c4 cl
      go_wp2
      clear hb2 hB3 hb1
      go_loopw [5] (fun i wr3 => ∃ s : Nat, s ≤ l.length ∧ i = .int .i64 s ∧ Hid ((l.take s).all (fun x => hasB 1 0 x.2) = true) ∧ Below wo.heap.size wo wr3) (fun i _ => l.length - (intOf i).toNat)
      case atStart => exact ⟨0, Nat.zero_le _, rfl, rfl, HB4.out⟩
      case round =>
        obtain ⟨s, hsl, rfl, hA3, hB5⟩ := hrel
        have hs5 := hB5.size
        obtain ⟨g0, k0, g1, k1, g2, k2, G0, j0, G1, j1, G2, j2, L, il, xb, d0, d1, d2, p2, x1, hcl, ⟨cs, hEl⟩⟩ := (hR.out.later hB5).deep HK.out.1 HK.out.2.1 HK.out.2.2 HP.out.1 HP.out.2.1 HP.out.2.2
        obtain ⟨c0, c1, c2, c3, c4, cl⟩ := id xb.all5
        rw [HV.out.l1, ← Hn.out] at c3
        rw [HV.out.l2, ← Hn.out] at c4
        rw [← Hn.out] at c2
        rw [HLL.out.1] at d0
        rw [HLL.out.2.1] at d1
        rw [HLL.out.2.2] at d2
        by_cases hlt3 : s < l.length
        case neg =>
          have e : s = l.length := by omega
          have hnx := Lib.hid (show (row.take (j + 1)).all (fun x => hasB 0 1 x.2.2) = true ∧ (inn.take (j + 1)).all (fun x => hasB 0 0 x.2) = true ∧ (lists.take (j + 1)).all (fun row => row.all fun x => hasB 1 0 x.2) = true from ⟨all_take (p := (fun x => hasB 0 1 x.2.2)) HP.out.1 hA2.out.1 F1.out, all_take (p := (fun x => hasB 0 0 x.2)) HP.out.2.1 hA2.out.2.1 F2.out, all_take (p := (fun row => row.all fun x => hasB 1 0 x.2)) HP.out.2.2 hA2.out.2.2 (by have := hA3.out; rwa [e, List.take_length] at this)⟩)
          clear hA3 xb
          subst e
          go_wp2
          go_roundw
          case rel => exact ⟨j + 1, by omega, by go_num, hnx, hB5⟩
          case measure => simp [intOf]; omega
        obtain ⟨y, hy⟩ : ∃ x, l[s]? = some x := ⟨_, List.getElem?_eq_getElem hlt3⟩
        obtain ⟨G, rfl, hG, _⟩ := RowE.head hEl hlt3
        have y1 := (OmE.cell' hEl hy).2
        have H3 := Lib.hid (fun W => spec_has y.2 1 0 W (HL3.out y (List.mem_of_getElem? hy)))
        clear xb hEl
        cases f3 : hasB 1 0 y.2 with
        | false =>
          rw [f3] at H3
          have hno := Lib.hid (HN3.out k j s lists l y HK.out.2.1 HP.out.2.2 hy f3)
          clear f3 hy
          go_wp2_with fail
          refine (H3.out _).mono ?_
          rintro e w3 ⟨rfl, hb3⟩
          go_wp2
          go_ret
          exact ⟨by rw [hno.out]; rfl, hB.trans ((hB5.trans (hb3.mono hs5)).mono hs)⟩
        | true =>
          rw [f3] at H3
          have hnx := Lib.hid (all_take (p := (fun x => hasB 1 0 x.2)) hy hA3.out f3)
          clear f3 hy
          go_wp2_with fail
          refine (H3.out _).mono ?_
          rintro e w3 ⟨rfl, hb3⟩
          go_wp2
          go_roundw
          case rel => exact ⟨s + 1, by omega, by go_num, hnx, hB5.trans (hb3.mono hs5)⟩
          case measure => simp [intOf]; omega
end Go.Proofs.Ytmkamodmnplclaa
