/- One cell of a rewriter's rows, read and written through its box. -/
import Derived.Test.YtmkamodmnplclaaRwAt
namespace Go.Proofs.Ytmkamodmnplclaa
open Go.RowKit
set_option linter.unusedVariables false

theorem RwAt.at_call {base b i j o q : Nat} {X : World} {c : Rw} {b1 b2 b3 : List Nat} {row : List (Int × Int × ByteArray)} {p : Int × Int × ByteArray} {u : Value} (h : RwAt base X b c b1 b2 b3) (hi : c.call[i]? = some row) (hj : row[j]? = some p) (hq : (opV p)[q]? = some u) (ho : o = j * 3 + q) :
    ∃ g0 k0 g1 k1, X.cell? ⟨b, 2, none⟩ = some (.slice (some ⟨g0, 0, none⟩) c.call.length k0) ∧ X.cell? ⟨g0, i, none⟩ = some (.slice (some ⟨g1, 0, none⟩) row.length k1) ∧ X.cell? ⟨g1, o, none⟩ = some u ∧ (∀ W, Below X.heap.size X W → W.frozen? ⟨g1, o, none⟩ = false) ∧ (b < X.heap.size ∧ g0 < X.heap.size ∧ g1 < X.heap.size) ∧
      ∀ (W : World), Below X.heap.size X W → ∀ (y : Int × Int × ByteArray) (v : Value), opV y = (opV p).set q v → RwAt base (W.setCell ⟨g1, o, none⟩ v) b { c with call := c.call.set i (row.set j y) } b1 b2 b3 ∧ Below base X (W.setCell ⟨g1, o, none⟩ v) := by
  subst ho
  obtain ⟨v0, v1, v2, xb, f0, f1, f2⟩ := h.ex
  obtain ⟨g0, k0, u0, cs, e0, hc0, hE, hg0, hback⟩ := ManyE.at_ f0 (op_ok _) hi
  subst e0
  obtain ⟨A, k1, rfl⟩ := RowE.slice hE
  have hjl := (List.getElem?_eq_some_iff.1 hj).1
  obtain ⟨g1, rfl, hg1, _⟩ := RowE.head hE hjl
  have hql : q < 3 := (List.getElem?_eq_some_iff.1 hq).1
  have hcb := xb.cell 2 _ rfl
  refine ⟨g0, k0, g1, k1, hcb, hc0, RowE.cell hE (fun _ => rfl) hj hq, fun W hW => RowE.frozen ((op_ok _).later hE hW) _, ⟨xb.lt, hg0, hg1⟩, fun W hW y v hy => ?_⟩
  have hp := RowE.putc (size := 3) (enc := opV) (fun _ => rfl) ((op_ok _).later hE hW) y q v hj hql hy
  have hT := (Turned.of_below (bs := cs) hW).trans hp.2
  have hb2 := hback _ _ hT hp.1
  refine ⟨h.put_call hcb hb2.2 hb2.1, hb2.2.below (Below.refl base X) (Nat.le_trans h.hb (Nat.le_of_lt h.lt.1)) (fun k hk => (h.lt.2.1 k hk).1)⟩

theorem RwAt.at_inner {base b i j o q : Nat} {X : World} {c : Rw} {b1 b2 b3 : List Nat} {row : List (Int × ByteArray)} {p : Int × ByteArray} {u : Value} (h : RwAt base X b c b1 b2 b3) (hi : c.inner[i]? = some row) (hj : row[j]? = some p) (hq : (omV p)[q]? = some u) (ho : o = j * 2 + q) :
    ∃ g0 k0 g1 k1, X.cell? ⟨b, 4, none⟩ = some (.slice (some ⟨g0, 0, none⟩) c.inner.length k0) ∧ X.cell? ⟨g0, i, none⟩ = some (.slice (some ⟨g1, 0, none⟩) row.length k1) ∧ X.cell? ⟨g1, o, none⟩ = some u ∧ (∀ W, Below X.heap.size X W → W.frozen? ⟨g1, o, none⟩ = false) ∧ (b < X.heap.size ∧ g0 < X.heap.size ∧ g1 < X.heap.size) ∧
      ∀ (W : World), Below X.heap.size X W → ∀ (y : Int × ByteArray) (v : Value), omV y = (omV p).set q v → RwAt base (W.setCell ⟨g1, o, none⟩ v) b { c with inner := c.inner.set i (row.set j y) } b1 b2 b3 ∧ Below base X (W.setCell ⟨g1, o, none⟩ v) := by
  subst ho
  obtain ⟨v0, v1, v2, xb, f0, f1, f2⟩ := h.ex
  obtain ⟨g0, k0, u0, cs, e0, hc0, hE, hg0, hback⟩ := ManyE.at_ f2 (om_ok _) hi
  subst e0
  obtain ⟨A, k1, rfl⟩ := RowE.slice hE
  have hjl := (List.getElem?_eq_some_iff.1 hj).1
  obtain ⟨g1, rfl, hg1, _⟩ := RowE.head hE hjl
  have hql : q < 2 := (List.getElem?_eq_some_iff.1 hq).1
  have hcb := xb.cell 4 _ rfl
  refine ⟨g0, k0, g1, k1, hcb, hc0, RowE.cell hE (fun _ => rfl) hj hq, fun W hW => RowE.frozen ((om_ok _).later hE hW) _, ⟨xb.lt, hg0, hg1⟩, fun W hW y v hy => ?_⟩
  have hp := RowE.putc (size := 2) (enc := omV) (fun _ => rfl) ((om_ok _).later hE hW) y q v hj hql hy
  have hT := (Turned.of_below (bs := cs) hW).trans hp.2
  have hb2 := hback _ _ hT hp.1
  refine ⟨h.put_inner hcb hb2.2 hb2.1, hb2.2.below (Below.refl base X) (Nat.le_trans h.hb (Nat.le_of_lt h.lt.1)) (fun k hk => (h.lt.2.2.2 k hk).1)⟩

theorem RwAt.at_ret {base b i s j o q : Nat} {X : World} {c : Rw} {b1 b2 b3 : List Nat} {lists : List (List (Int × ByteArray))} {row : List (Int × ByteArray)} {p : Int × ByteArray} {u : Value} (h : RwAt base X b c b1 b2 b3) (hi : c.ret[i]? = some lists) (hs : lists[s]? = some row) (hj : row[j]? = some p) (hq : (omV p)[q]? = some u) (ho : o = j * 2 + q) :
    ∃ g0 k0 g1 k1 g2 k2, X.cell? ⟨b, 3, none⟩ = some (.slice (some ⟨g0, 0, none⟩) c.ret.length k0) ∧ X.cell? ⟨g0, i, none⟩ = some (.slice (some ⟨g1, 0, none⟩) lists.length k1) ∧ X.cell? ⟨g1, s, none⟩ = some (.slice (some ⟨g2, 0, none⟩) row.length k2) ∧ X.cell? ⟨g2, o, none⟩ = some u ∧ (∀ W, Below X.heap.size X W → W.frozen? ⟨g2, o, none⟩ = false) ∧ (b < X.heap.size ∧ g0 < X.heap.size ∧ g1 < X.heap.size ∧ g2 < X.heap.size) ∧
      ∀ (W : World), Below X.heap.size X W → ∀ (y : Int × ByteArray) (v : Value), omV y = (omV p).set q v → RwAt base (W.setCell ⟨g2, o, none⟩ v) b { c with ret := c.ret.set i (lists.set s (row.set j y)) } b1 b2 b3 ∧ Below base X (W.setCell ⟨g2, o, none⟩ v) := by
  subst ho
  obtain ⟨v0, v1, v2, xb, f0, f1, f2⟩ := h.ex
  obtain ⟨g0, k0, u0, cs, e0, hc0, hE0, hg0, hback⟩ := ManyE.at_ f1 (om2_ok _) hi
  subst e0
  obtain ⟨g1, k1, u1, ds, e1, hc1, hE, hg1, hback1⟩ := ManyE.at_ hE0 (om_ok _) hs
  subst e1
  obtain ⟨A, k2, rfl⟩ := RowE.slice hE
  have hjl := (List.getElem?_eq_some_iff.1 hj).1
  obtain ⟨g2, rfl, hg2, _⟩ := RowE.head hE hjl
  have hql : q < 2 := (List.getElem?_eq_some_iff.1 hq).1
  have hcb := xb.cell 3 _ rfl
  refine ⟨g0, k0, g1, k1, g2, k2, hcb, hc0, hc1, RowE.cell hE (fun _ => rfl) hj hq, fun W hW => RowE.frozen ((om_ok _).later hE hW) _, ⟨xb.lt, hg0, hg1, hg2⟩, fun W hW y v hy => ?_⟩
  have hp := RowE.putc (size := 2) (enc := omV) (fun _ => rfl) ((om_ok _).later hE hW) y q v hj hql hy
  have hT := (Turned.of_below (bs := ds) hW).trans hp.2
  have hb1 := hback1 _ _ hT hp.1
  have hb2 := hback _ _ hb1.2 hb1.1
  refine ⟨h.put_ret hcb hb2.2 hb2.1, hb2.2.below (Below.refl base X) (Nat.le_trans h.hb (Nat.le_of_lt h.lt.1)) (fun k hk => (h.lt.2.2.1 k hk).1)⟩

theorem RwAt.lists_ret {base b i : Nat} {X : World} {c : Rw} {b1 b2 b3 : List Nat} {lists : List (List (Int × ByteArray))} {r0 : List (Int × ByteArray)} (h : RwAt base X b c b1 b2 b3) (hi : c.ret[i]? = some lists) (h0 : lists[0]? = some r0) :
    ∃ g0 k0 g1 k1 cs, X.cell? ⟨b, 3, none⟩ = some (.slice (some ⟨g0, 0, none⟩) c.ret.length k0) ∧ X.cell? ⟨g0, i, none⟩ = some (.slice (some ⟨g1, 0, none⟩) lists.length k1) ∧ Om2E base X (.slice (some ⟨g1, 0, none⟩) lists.length k1) lists cs ∧ (b < X.heap.size ∧ g0 < X.heap.size ∧ g1 < X.heap.size) ∧
      ∀ (W : World) (l : List (List (Int × ByteArray))), Turned cs X W → Om2E base W (.slice (some ⟨g1, 0, none⟩) lists.length k1) l cs → RwAt base W b { c with ret := c.ret.set i l } b1 b2 b3 ∧ Below base X W := by
  obtain ⟨v0, v1, v2, xb, f0, f1, f2⟩ := h.ex
  obtain ⟨g0, k0, u0, cs, e0, hc0, hE0, hg0, hback⟩ := ManyE.at_ f1 (om2_ok _) hi
  subst e0
  obtain ⟨g1, k1, u1, ds, e1, hc1, hE, hg1, _⟩ := ManyE.at_ hE0 (om_ok _) h0
  subst e1
  have hcb := xb.cell 3 _ rfl
  refine ⟨g0, k0, g1, k1, cs, hcb, hc0, hE0, ⟨xb.lt, hg0, hg1⟩, fun W l hT hE2 => ?_⟩
  have hb2 := hback _ _ hT hE2
  exact ⟨h.put_ret hcb hb2.2 hb2.1, hb2.2.below (Below.refl base X) (Nat.le_trans h.hb (Nat.le_of_lt h.lt.1)) (fun k hk => (h.lt.2.2.1 k hk).1)⟩

theorem RwAt.row_call {base b i : Nat} {X : World} {c : Rw} {b1 b2 b3 : List Nat} {row : List (Int × Int × ByteArray)} {p : Int × Int × ByteArray} (h : RwAt base X b c b1 b2 b3) (hi : c.call[i]? = some row) (h0 : row[0]? = some p) :
    ∃ g0 k0 g1 k1 cs, X.cell? ⟨b, 2, none⟩ = some (.slice (some ⟨g0, 0, none⟩) c.call.length k0) ∧ X.cell? ⟨g0, i, none⟩ = some (.slice (some ⟨g1, 0, none⟩) row.length k1) ∧ OpE base X (.slice (some ⟨g1, 0, none⟩) row.length k1) row cs ∧ (b < X.heap.size ∧ g0 < X.heap.size ∧ g1 < X.heap.size) ∧
      ∀ (W : World) (l : List (Int × Int × ByteArray)), Turned cs X W → OpE base W (.slice (some ⟨g1, 0, none⟩) row.length k1) l cs → RwAt base W b { c with call := c.call.set i l } b1 b2 b3 ∧ Below base X W := by
  obtain ⟨v0, v1, v2, xb, f0, f1, f2⟩ := h.ex
  obtain ⟨g0, k0, u0, cs, e0, hc0, hE, hg0, hback⟩ := ManyE.at_ f0 (op_ok _) hi
  subst e0
  obtain ⟨A, k1, rfl⟩ := RowE.slice hE
  obtain ⟨g1, rfl, hg1, _⟩ := RowE.head hE (List.getElem?_eq_some_iff.1 h0).1
  have hcb := xb.cell 2 _ rfl
  refine ⟨g0, k0, g1, k1, cs, hcb, hc0, hE, ⟨xb.lt, hg0, hg1⟩, fun W l hT hE2 => ?_⟩
  have hb2 := hback _ _ hT hE2
  exact ⟨h.put_call hcb hb2.2 hb2.1, hb2.2.below (Below.refl base X) (Nat.le_trans h.hb (Nat.le_of_lt h.lt.1)) (fun k hk => (h.lt.2.1 k hk).1)⟩

theorem RwAt.row_inner {base b i : Nat} {X : World} {c : Rw} {b1 b2 b3 : List Nat} {row : List (Int × ByteArray)} {p : Int × ByteArray} (h : RwAt base X b c b1 b2 b3) (hi : c.inner[i]? = some row) (h0 : row[0]? = some p) :
    ∃ g0 k0 g1 k1 cs, X.cell? ⟨b, 4, none⟩ = some (.slice (some ⟨g0, 0, none⟩) c.inner.length k0) ∧ X.cell? ⟨g0, i, none⟩ = some (.slice (some ⟨g1, 0, none⟩) row.length k1) ∧ OmE base X (.slice (some ⟨g1, 0, none⟩) row.length k1) row cs ∧ (b < X.heap.size ∧ g0 < X.heap.size ∧ g1 < X.heap.size) ∧
      ∀ (W : World) (l : List (Int × ByteArray)), Turned cs X W → OmE base W (.slice (some ⟨g1, 0, none⟩) row.length k1) l cs → RwAt base W b { c with inner := c.inner.set i l } b1 b2 b3 ∧ Below base X W := by
  obtain ⟨v0, v1, v2, xb, f0, f1, f2⟩ := h.ex
  obtain ⟨g0, k0, u0, cs, e0, hc0, hE, hg0, hback⟩ := ManyE.at_ f2 (om_ok _) hi
  subst e0
  obtain ⟨A, k1, rfl⟩ := RowE.slice hE
  obtain ⟨g1, rfl, hg1, _⟩ := RowE.head hE (List.getElem?_eq_some_iff.1 h0).1
  have hcb := xb.cell 4 _ rfl
  refine ⟨g0, k0, g1, k1, cs, hcb, hc0, hE, ⟨xb.lt, hg0, hg1⟩, fun W l hT hE2 => ?_⟩
  have hb2 := hback _ _ hT hE2
  exact ⟨h.put_inner hcb hb2.2 hb2.1, hb2.2.below (Below.refl base X) (Nat.le_trans h.hb (Nat.le_of_lt h.lt.1)) (fun k hk => (h.lt.2.2.2 k hk).1)⟩

end Go.Proofs.Ytmkamodmnplclaa
