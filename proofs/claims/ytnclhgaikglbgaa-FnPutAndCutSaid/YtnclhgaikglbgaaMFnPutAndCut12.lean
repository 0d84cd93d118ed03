import Derived.Test.YtnclhgaikglbgaaMFnPutAndCut5
import Derived.Test.YtnclhgaikglbgaaMFnPutAndCut8
import Derived.Test.YtnclhgaikglbgaaMFnPutAndCut11
import Derived.Test.YtnclhgaikglbgaaMFnPutAndCut6
import Derived.Test.YtnclhgaikglbgaaMFnPutAndCut9
import Derived.Test.YtnclhgaikglbgaaMFnPutAndCut10
import Derived.Test.YtnclhgaikglbgaaMFnPutAndCut0
import Derived.Test.YtnclhgaikglbgaaMFnPutAndCut1
import Derived.BigQuiet
import Derived.Deep.QuietTactic
import Derived.Lib.Hide
/- Plain mathematics of the law FnMatching: turned words; what is matched. -/
namespace Go.Proofs.Ytnclhgaikglbgaa
open Go.RowKit
set_option linter.unusedVariables false

/-- The bytes of the turned word. -/
def turnL (l : List UInt8) : List UInt8 := (l.map turnB).reverse
theorem turnL_len (l : List UInt8) : (turnL l).length = l.length := by simp [turnL]
theorem turnB_sym {b : UInt8} (h : 0 ≤ symNo (b.toNat : Int)) : 0 ≤ symNo ((turnB b).toNat : Int) ∧ kindS (symNo ((turnB b).toNat : Int)) = turnK (kindS (symNo (b.toNat : Int))) ∧ turnB (turnB b) = b := by
  rcases valid_byte h with rfl | rfl | rfl | rfl | rfl | rfl <;> decide
theorem turnL_all {l : List UInt8} (h : AllSym l) : AllSym (turnL l) := fun b hb => by
  simp only [turnL, List.mem_reverse, List.mem_map] at hb
  obtain ⟨x, hx, rfl⟩ := hb
  exact (turnB_sym (h x hx)).1
theorem turnL_turnL {l : List UInt8} (h : AllSym l) : turnL (turnL l) = l := by
  unfold turnL
  rw [List.map_reverse, List.reverse_reverse, List.map_map]
  have : ∀ x ∈ l, (turnB ∘ turnB) x = x := fun x hx => (turnB_sym (h x hx)).2.2
  rw [List.map_congr_left this]
  simp
theorem turnL_ks {l : List UInt8} (h : AllSym l) : ksOf (turnL l) = turnKs (ksOf l) := by
  unfold turnL turnKs ksOf
  rw [List.map_reverse, List.map_map, List.map_map]
  congr 1
  exact List.map_congr_left fun x hx => (turnB_sym (h x hx)).2.1

/-- A word of which nothing is pending is matched. -/
theorem none_matched (l : List UInt8) {ps : List Int} (h : ∀ k : Nat, ps[k]? ≠ some (-2)) : ∀ n, cR l ps n + cC l ps n = 0
  | 0 => rfl
  | n + 1 => by
    have ih := none_matched l h n
    rw [cR, cC, if_neg (fun e => h n e.1), if_neg (fun e => h n e.1)]
    exact ih
/-- The part of a word between two places. -/
theorem ext_list (s : ByteArray) (a b : Nat) : (s.extract a b).data.toList = (s.data.toList.take b).drop a := by
  simp [ByteArray.data_extract, List.extract_eq_take_drop, List.drop_take]
theorem ext_isW {s : ByteArray} (h : IsW s) (a b : Nat) (hb : b ≤ s.size) : IsW (s.extract a b) := by
  refine ⟨by rw [ByteArray.size_extract]; have := h.1; omega, fun x hx => ?_⟩
  rw [ext_list] at hx
  exact h.2 x (List.mem_of_mem_take (List.mem_of_mem_drop hx))
theorem ks_part (l : List UInt8) (a b : Nat) : ksOf ((l.take b).drop a) = ((ksOf l).take b).drop a := by
  simp [ksOf, List.map_drop, List.map_take]
/-- How many are pending, in all. -/
theorem pend_sum {l : List UInt8} (hall : AllSym l) (k : Nat) (hk : k ≤ l.length) : (pend (symL l) (prts (ksOf l)) k).length = ((pend (symL l) (prts (ksOf l)) k).filter fun x => !callS x.1.2).length + ((pend (symL l) (prts (ksOf l)) k).filter fun x => callS x.1.2).length := by
  generalize pend (symL l) (prts (ksOf l)) k = L
  induction L with
  | nil => rfl
  | cons x L ih => cases hx : callS x.1.2 <;> simp [hx, ih] <;> omega
/-- What a place of the word is, by its partner. -/
theorem place_cases {l : List UInt8} (hall : AllSym l) {k : Nat} {b : UInt8} (hb : l[k]? = some b) :
    ∃ p : Int, (prts (ksOf l))[k]? = some p ∧
      ((callB (b.toNat : Int) = true ∧ retB (b.toNat : Int) = false ∧ ((∃ m : Nat, p = (m : Int) ∧ HM (ksOf l) k m) ∨ p = -2)) ∨
       (callB (b.toNat : Int) = false ∧ retB (b.toNat : Int) = true ∧ ((∃ a : Nat, p = (a : Int) ∧ HM (ksOf l) a k) ∨ p = -2)) ∨
       (callB (b.toNat : Int) = false ∧ retB (b.toNat : Int) = false ∧ p = -1)) := by
  have hs := hall b (List.mem_of_getElem? hb)
  have hkk := ksOf_at l k b hb
  have hcr : ∀ n : Int, callB n = true → retB n = false := fun n h => by simp only [callB, retB, decide_eq_true_eq, decide_eq_false_iff_not] at h ⊢; omega
  rcases prts_cases (ksOf l) hkk with ⟨e, h⟩ | ⟨e, h⟩ | ⟨e0, e1, h⟩
  · have hc : callB (b.toNat : Int) = true := by
      cases hc : callB (b.toNat : Int) with
      | true => rfl
      | false =>
        cases hd : retB (b.toNat : Int) with
        | true => rw [kind_ret hd] at e; cases e
        | false => rcases kind_in hc hd with h | h <;> omega
    rcases h with ⟨m, hm⟩ | ⟨h, _⟩
    · exact ⟨_, hm.at_call, .inl ⟨hc, hcr _ hc, .inl ⟨m, rfl, hm⟩⟩⟩
    · exact ⟨_, h, .inl ⟨hc, hcr _ hc, .inr rfl⟩⟩
  · have hc : callB (b.toNat : Int) = false := by
      cases hc : callB (b.toNat : Int) with
      | false => rfl
      | true => rw [kind_call hc] at e; cases e
    have hd : retB (b.toNat : Int) = true := by
      cases hd : retB (b.toNat : Int) with
      | true => rfl
      | false => rcases kind_in hc hd with h | h <;> omega
    rcases h with ⟨m, hm⟩ | ⟨h, _⟩
    · exact ⟨_, hm.at_ret, .inr (.inl ⟨hc, hd, .inl ⟨m, rfl, hm⟩⟩)⟩
    · exact ⟨_, h, .inr (.inl ⟨hc, hd, .inr rfl⟩)⟩
  · have hc : callB (b.toNat : Int) = false := by
      cases hc : callB (b.toNat : Int) with
      | false => rfl
      | true => exact absurd (kind_call hc) e0
    have hd : retB (b.toNat : Int) = false := by
      cases hd : retB (b.toNat : Int) with
      | false => rfl
      | true => exact absurd (kind_ret hd) e1
    exact ⟨_, h, .inr (.inr ⟨hc, hd, rfl⟩)⟩
end Go.Proofs.Ytnclhgaikglbgaa
/- What the calls of FnPutAndCut answer. -/
namespace Go.Proofs.Ytnclhgaikglbgaa
open Go.RowKit
set_option linter.unusedVariables false

theorem mB_none {l : List UInt8} (h : ∀ k : Nat, (prts (ksOf l))[k]? ≠ some (-2)) : mB l = true := decide_eq_true (none_matched l h _)
theorem size_list (s : ByteArray) : s.data.toList.length = s.size := by simp
theorem ksOf_app (a b : List UInt8) : ksOf (a ++ b) = ksOf a ++ ksOf b := by simp [ksOf]
theorem told_ok {t : ByteArray} (h : t.size ≤ 60) : toldV t = .tuple #[.string t, .int .i64 0] := if_pos h
theorem isW_app {a b : ByteArray} (ha : IsW a) (hb : IsW b) (h : a.size + b.size ≤ 60) : IsW (a ++ b) := by
  refine ⟨by rw [ByteArray.size_append]; exact h, fun x hx => ?_⟩
  rw [ByteArray.data_append, Array.toList_append] at hx
  rcases List.mem_append.1 hx with hx | hx
  · exact ha.2 x hx
  · exact hb.2 x hx
theorem isW_one {b : UInt8} (h : 0 ≤ symNo (b.toNat : Int)) : IsW ⟨#[b]⟩ := ⟨by show 1 ≤ 60; omega, fun x hx => by
  have : x = b := by simpa using hx
  rw [this]; exact h⟩

/-- The node that is put in. -/
def nodeW (m : ByteArray) : ByteArray := ⟨#[91]⟩ ++ m ++ ⟨#[41]⟩
theorem nodeW_ks (m : ByteArray) : ksOf (nodeW m).data.toList = 0 :: (ksOf m.data.toList ++ [1]) := by
  unfold nodeW
  rw [ByteArray.data_append, ByteArray.data_append, Array.toList_append, Array.toList_append, ksOf_app, ksOf_app]
  rfl
theorem nodeW_size (m : ByteArray) : (nodeW m).size = m.size + 2 := by
  unfold nodeW
  rw [ByteArray.size_append, ByteArray.size_append]
  show 1 + m.size + 1 = m.size + 2
  omega
theorem nodeW_isW {m : ByteArray} (h : IsW m) (h2 : m.size ≤ 58) : IsW (nodeW m) :=
  isW_app (isW_app (isW_one (by decide)) h (by show 1 + m.size ≤ 60; omega)) (isW_one (by decide)) (by rw [ByteArray.size_append]; show 1 + m.size + 1 ≤ 60; omega)

structure PutCalls (s u x r : ByteArray) (i R Q : Nat) : Prop where
  x_size : x.size = s.size + u.size
  x_is : x = s.extract 0 i ++ u ++ s.extract i s.size
  r_size : r.size = s.size + R + Q
  rq : R + Q ≤ s.size
  r_mid : r.extract R (R + s.size) = s
  put : ∀ W, Calls Try.prog 25 #[.string s, .int .i64 (i : Int), .string u] W (TupPost (.tuple #[.string x, .int .i64 0]) W)
  nums : ∀ W, Calls Try.prog 14 #[.string s] W (NumsPost s.size (prts (ksOf s.data.toList)) 0 W)
  xnums : ∀ W, Calls Try.prog 14 #[.string x] W (NumsPost x.size (prts (ksOf x.data.toList)) 0 W)
  link : ∀ (k : Nat) (p : Int), (prts (ksOf s.data.toList))[k]? = some p → (prts (ksOf x.data.toList))[shK i u.size k]? = some (if (i : Int) ≤ p then p + u.size else p)
  cut : ∀ W, Calls Try.prog 26 #[.string x, .int .i64 (i : Int)] W (TupPost (.tuple #[.string s, .int .i64 0]) W)
  comp : ∀ W, Calls Try.prog 27 #[.string s] W (TupPost (.tuple #[.string r, .int .i64 0]) W)
  good : ∀ W, Calls Try.prog 17 #[.string r] W (TupPost (.tuple #[.bool true, .int .i64 0]) W)
  pend : ∀ W, Calls Try.prog 11 #[.string s] W (TupPost (.tuple #[.int .i64 (R : Int), .int .i64 (Q : Int), .int .i64 0]) W)
  join : ∀ W, Calls Try.prog 28 #[.string s, .string u] W (TupPost (.tuple #[.string (s ++ u), .int .i64 0]) W)
  bad : ∀ W, Calls Try.prog 25 #[.string s, .int .i64 (i : Int), .string ⟨#[40]⟩] W (TupPost (.tuple #[.string ⟨#[]⟩, .int .i64 4]) W)

theorem put_calls {s : ByteArray} {q z i : Nat} (hs : IsW s) (h12 : s.size ≤ 12) (hq : q ≤ 8) (hz : z < wy q 0) (hi : i ≤ s.size) :
    ∃ x r R Q, PutCalls s (nodeW (textN (nth q 0 z))) x r i R Q := by
  obtain ⟨m1, m2, m3, m4, m5⟩ := listed (show q ≤ 20 by omega) hz
  obtain ⟨m, hm⟩ : ∃ m, m = textN (nth q 0 z) := ⟨_, rfl⟩
  rw [← hm] at m1 m2 m3 m4 m5 ⊢
  have hks : (ksOf m.data.toList).length = m.size := by simp [ksOf]
  obtain ⟨f1, f2, f3⟩ := node_flat (ms := ksOf m.data.toList) (fun j hj => m3 j (by omega)) (by rw [hks, m2]; exact m4)
  rw [← nodeW_ks] at f1 f2 f3
  have hu := nodeW_isW m1 (by omega)
  have husz := nodeW_size m
  obtain ⟨u, hue⟩ : ∃ u, u = nodeW m := ⟨_, rfl⟩
  rw [← hue] at f1 f2 f3 hu husz ⊢
  have hmu : mB u.data.toList = true := mB_none (flat_none f1 f2)
  have hul : (ksOf u.data.toList).length = u.size := by simp [ksOf]
  have hsl : (ksOf s.data.toList).length = s.size := by simp [ksOf]
  have hts : s.data.toList.take s.size = s.data.toList := List.take_of_length_le (by rw [size_list]; exact Nat.le_refl _)
  obtain ⟨x, hx⟩ : ∃ x, x = putW s u i := ⟨_, rfl⟩
  have hxs : x.size = s.size + u.size := by rw [hx, putW, ByteArray.size_append, ByteArray.size_append, ByteArray.size_extract, ByteArray.size_extract]; omega
  have hxl : x.data.toList = s.data.toList.take i ++ u.data.toList ++ s.data.toList.drop i := by
    rw [hx, putW, ByteArray.data_append, ByteArray.data_append, Array.toList_append, Array.toList_append, ext_list, ext_list, List.drop_zero, hts]
  have hxk : ksOf x.data.toList = putK (ksOf s.data.toList) (ksOf u.data.toList) i := by
    rw [hxl, ksOf_app, ksOf_app, putK]; simp [ksOf]
  have hxw : IsW x := by
    refine ⟨by omega, fun b hb => ?_⟩
    rw [hxl] at hb
    rcases List.mem_append.1 hb with hb | hb
    · rcases List.mem_append.1 hb with hb | hb
      · exact hs.2 b (List.mem_of_mem_take hb)
      · exact hu.2 b hb
    · exact hs.2 b (List.mem_of_mem_drop hb)
  -- what is completed
  have hpc := pend_counts s.data.toList hs.2 s.size (by rw [size_list]; omega)
  obtain ⟨R, hR⟩ : ∃ R, R = cR s.data.toList (prts (ksOf s.data.toList)) s.size := ⟨_, rfl⟩
  obtain ⟨Q, hQ⟩ : ∃ Q, Q = cC s.data.toList (prts (ksOf s.data.toList)) s.size := ⟨_, rfl⟩
  obtain ⟨c, hc⟩ : ∃ c, c = coreL s.data.toList (prts (ksOf s.data.toList)) s.size := ⟨_, rfl⟩
  obtain ⟨k1, k2⟩ := core_counts hs.2 (prts (ksOf s.data.toList)) s.size (by rw [size_list]; omega)
  rw [← hc, ← hR] at k1
  rw [← hc, ← hQ] at k2
  have hcs : AllSym c := by
    intro b hb
    rw [hc, coreL] at hb
    obtain ⟨y, _, rfl⟩ := List.mem_map.1 hb
    exact (turnX_byte y.2).2.2.2
  have hRQ : R + Q ≤ s.size := by
    have e1 := pend_sum hs.2 s.size (by rw [size_list]; omega)
    have e2 := pend_len (symL s.data.toList) (prts (ksOf s.data.toList)) s.size
    rw [hpc.1, hpc.2, ← hR, ← hQ] at e1
    omega
  obtain ⟨r, hr⟩ : ∃ r : ByteArray, r = ⟨(compL s.data.toList c).toArray⟩ := ⟨_, rfl⟩
  have hrl : r.data.toList = compL s.data.toList c := by rw [hr]
  have hfl : (frL c).length = R := by rw [frL, List.length_replicate, k1]
  have hbl : (beL c).length = Q := by
    rw [beL, List.length_map, List.filter_reverse, List.length_reverse, k2]
  have hrs : r.size = s.size + R + Q := by
    rw [size_of r _ hrl, compL, List.length_append, List.length_append, hfl, hbl, size_list]; omega
  have hrw : IsW r := by
    refine ⟨by omega, fun b hb => ?_⟩
    rw [hrl, compL] at hb
    rcases List.mem_append.1 hb with hb | hb
    · rcases List.mem_append.1 hb with hb | hb
      · rw [frL] at hb; rw [(List.mem_replicate.1 hb).2]; decide
      · exact hs.2 b hb
    · rw [beL] at hb
      obtain ⟨y, hy, rfl⟩ := List.mem_map.1 hb
      have hyc := hcs y (List.mem_reverse.1 (List.mem_filter.1 hy).1)
      rcases six_byte hyc with rfl | rfl | rfl | rfl | rfl | rfl <;> decide
  have hrn : ∀ k : Nat, (prts (ksOf r.data.toList))[k]? ≠ some (-2) := by
    rw [hrl]
    exact comp_none hs.2 (by rw [size_list]; exact hc) hcs
  have hnone : cR r.data.toList (prts (ksOf r.data.toList)) r.size + cC r.data.toList (prts (ksOf r.data.toList)) r.size = 0 := none_matched _ hrn _
  refine ⟨x, r, R, Q, hxs, hx, hrs, hRQ, ?_, fun W => ?_, fun W => impl_PartnersOf_yes s W hs, fun W => impl_PartnersOf_yes x W hxw, fun k p h => ?_, fun W => ?_, fun W => ?_, fun W => ?_, fun W => ?_, fun W => ?_, fun W => ?_⟩
  · apply ByteArray.ext
    apply Array.toList_inj.1
    rw [ext_list, hrl, compL, List.append_assoc, List.take_append, List.drop_append, hfl, List.take_of_length_le (l := frL c) (by omega), List.drop_of_length_le (l := frL c) (by omega), hfl, List.nil_append, Nat.sub_self, List.drop_zero, show R + s.size - R = s.size by omega, List.take_append_of_le_length (by rw [size_list]; exact Nat.le_refl _), List.take_of_length_le (by rw [size_list]; exact Nat.le_refl _)]
  · have := impl_PutAt_yes s u i W hs hu hi hmu
    rwa [← hx, told_ok (by omega)] at this
  · have := put_prts (ks := ksOf s.data.toList) (vs := ksOf u.data.toList) (i := i) (by omega) f1 f2 h
    rwa [← hxk, hul] at this
  · have hn : HM (ksOf x.data.toList) (i + 0) (i + ((ksOf m.data.toList).length + 1)) := by rw [hxk]; exact HM.mid (by omega) (by rw [hue, nodeW_ks]; rw [hue, nodeW_ks] at f3; exact f3)
    rw [Nat.add_zero, hks] at hn
    have hil : i < x.size := by omega
    have hbx : callB (x[i].toNat : Int) = true := by
      have e := hn.call
      have e2 : x.data.toList[i]? = some x[i] := by rw [List.getElem?_eq_getElem (by rw [size_list]; exact hil)]; rfl
      rw [ksOf, List.getElem?_map, e2] at e
      have e3 : kindS (symNo (x[i].toNat : Int)) = 0 := Option.some.inj e
      rcases six_byte (hxw.2 x[i] (List.mem_of_getElem? e2)) with h | h | h | h | h | h <;> rw [h] at e3 ⊢ <;> first | rfl | exact absurd e3 (by decide)
    have hcl := fun W' => impl_closed_yes x W' hxw i ((i + (m.size + 1) : Nat) : Int) hil hn.at_call hbx (by omega)
    have := impl_CutMatched_yes x i (i + (m.size + 1)) W (by omega) (by omega) (by omega) hcl
    have e : x.extract 0 i ++ x.extract (i + (m.size + 1) + 1) x.size = s := by
      apply ByteArray.ext
      apply Array.toList_inj.1
      have htx : x.data.toList.take x.size = x.data.toList := List.take_of_length_le (by rw [size_list]; exact Nat.le_refl _)
      have l1 : (s.data.toList.take i).length = i := by rw [List.length_take, size_list]; omega
      have l2 : (s.data.toList.take i ++ u.data.toList).length = i + (m.size + 1) + 1 := by rw [List.length_append, l1, size_list]; omega
      have e1 : (s.data.toList.take i ++ u.data.toList ++ s.data.toList.drop i).take i = s.data.toList.take i := by
        rw [List.append_assoc, List.take_append_of_le_length (by omega), List.take_of_length_le (by omega)]
      have e2 : (s.data.toList.take i ++ u.data.toList ++ s.data.toList.drop i).drop (i + (m.size + 1) + 1) = s.data.toList.drop i := by
        rw [← l2, List.drop_left]
      rw [ByteArray.data_append, Array.toList_append, ext_list, ext_list, List.drop_zero, htx, hxl, e1, e2, List.take_append_drop]
    rw [e] at this
    exact this
  · have := impl_complete s r W hs (by rw [hrl, hc])
    rwa [told_ok (by omega)] at this
  · have := impl_IsMatched_yes r W hrw
    rwa [decide_eq_true hnone] at this
  · have := impl_PendingOf_yes s W hs
    rwa [hpc.1, hpc.2, ← hR, ← hQ] at this
  · have := impl_JoinWords_yes s u W hs hu
    rwa [told_ok (by rw [ByteArray.size_append]; omega)] at this
  · have := impl_PutAt_state s ⟨#[40]⟩ (i : Int) W hs (isW_one (by decide)) (by omega) (by omega) (by rfl)
    exact this
end Go.Proofs.Ytnclhgaikglbgaa
/- What draws choices from bytes: l00From and the methods next, pick, one of its answer. -/
namespace Go.Proofs.Ytnclhgaikglbgaa
open Go.RowKit

/-- Bytes that lie below the block B. -/
structure CodeAt (B : Nat) (W : World) (A : Option Addr) (n : Nat) : Prop where
  le : n ≤ 3000
  byte : ∀ j, j < n → ∃ (a : Addr) (x : Int), A = some a ∧ a.block < B ∧ W.cell? (a.add j) = some (.int .u8 x) ∧ 0 ≤ x ∧ x ≤ 255
/-- The source at the block p. -/
structure SrcAt (W : World) (p : Nat) (A : Option Addr) (n c k : Nat) : Prop where
  c0 : W.cell? ⟨p, 0, none⟩ = some (.slice A n c)
  c1 : W.cell? ⟨p, 1, none⟩ = some (.int .i64 (k : Int))
  c2 : ∃ x : Int, W.cell? ⟨p, 2, none⟩ = some (.int .u64 x) ∧ 0 ≤ x ∧ x < 18446744073709551616
  f1 : W.frozen? ⟨p, 1, none⟩ = false
  f2 : W.frozen? ⟨p, 2, none⟩ = false

theorem src_step {w : World} {p : Nat} {A : Option Addr} {n c k : Nat} (hs : SrcAt w p A n c k) (q : Nat) (x : Int) (hx : 0 ≤ x ∧ x < 18446744073709551616) :
    SrcAt (((w.drewN q).setCell ⟨p, 1, none⟩ (.int .i64 ((k : Int) + 1))).setCell ⟨p, 2, none⟩ (.int .u64 x)) p A n c (k + 1) ∧
    w.grownBy (((w.drewN q).setCell ⟨p, 1, none⟩ (.int .i64 ((k : Int) + 1))).setCell ⟨p, 2, none⟩ (.int .u64 x)) (some p) := by
  obtain ⟨h0, h1, ⟨y, h2, _, _⟩, f1, f2⟩ := hs
  have d0 : (w.drewN q).cell? ⟨p, 0, none⟩ = _ := h0
  have d1 : (w.drewN q).cell? ⟨p, 1, none⟩ = _ := h1
  have d2 : (w.drewN q).cell? ⟨p, 2, none⟩ = _ := h2
  have g1 : (w.drewN q).frozen? ⟨p, 1, none⟩ = _ := f1
  have g2 : (w.drewN q).frozen? ⟨p, 2, none⟩ = _ := f2
  have e0 := (World.cell?_setCell_other (w.drewN q) ⟨p, 1, none⟩ ⟨p, 0, none⟩ (.int .i64 ((k : Int) + 1)) (by simp)).trans d0
  have e1 := World.cell?_setCell_same' (w.drewN q) ⟨p, 1, none⟩ (.int .i64 ((k : Int) + 1)) (by rw [d1]; rfl)
  have e2 := (World.cell?_setCell_other (w.drewN q) ⟨p, 1, none⟩ ⟨p, 2, none⟩ (.int .i64 ((k : Int) + 1)) (by simp)).trans d2
  refine ⟨⟨?_, ?_, ⟨x, ?_, hx⟩, ?_, ?_⟩, ?_⟩
  · exact (World.cell?_setCell_other _ _ _ _ (by simp)).trans e0
  · exact (World.cell?_setCell_other _ _ _ _ (by simp)).trans e1
  · exact World.cell?_setCell_same' _ _ _ (by rw [e2]; rfl)
  · rw [World.frozen?_setCell, World.frozen?_setCell]; exact g1
  · rw [World.frozen?_setCell, World.frozen?_setCell]; exact g2
  · refine ⟨rfl, rfl, rfl, by simp [World.setCell, World.drewN], fun b _ hb => ?_⟩
    have hb' : b ≠ p := fun e => hb (by rw [e])
    rw [Below.heap_setCell _ _ _ _ hb', Below.heap_setCell _ _ _ _ hb']
    rfl
theorem wrap_in (n : Int) : 0 ≤ IntKind.u64.wrap n ∧ IntKind.u64.wrap n < 18446744073709551616 := by rw [IntKind.wrap_u64]; omega
theorem low_byte (x : Int) (h0 : 0 ≤ x) (h1 : x < 18446744073709551616) : 0 ≤ wrap64 (bits BinOp.and IntKind.u64 (x / 1099511627776) 255) ∧ wrap64 (bits BinOp.and IntKind.u64 (x / 1099511627776) 255) ≤ 255 := by
  obtain ⟨m, hm⟩ : ∃ m : Nat, x / 1099511627776 = (m : Int) := Int.eq_ofNat_of_zero_le (by omega)
  have h := bits_and_u64_nat m 255 (by omega) (by omega)
  have hle : m &&& 255 ≤ 255 := Nat.and_le_right
  rw [hm, show (255 : Int) = ((255 : Nat) : Int) from rfl, h]
  unfold wrap64
  omega
theorem SrcAt.drewN {w : World} {p : Nat} {A : Option Addr} {n c k : Nat} (h : SrcAt w p A n c k) (q : Nat) : SrcAt (w.drewN q) p A n c k := ⟨h.c0, h.c1, h.c2, h.f1, h.f2⟩

set_option maxHeartbeats 1600000 in
set_option maxRecDepth 100000 in
theorem draw_next (p : Nat) (A : Option Addr) (n c k : Nat) (w : World) (hc : CodeAt p w A n) (hs : SrcAt w p A n c k) (hk : k ≤ 100000) :
    Calls Try.prog 63 #[.pointer (some ⟨p, 0, none⟩)] w fun e w' => ∃ v : Int, 0 ≤ v ∧ v ≤ 255 ∧ e = .returned (.int .i64 v) ∧ SrcAt w' p A n c (k + 1) ∧ w.grownBy w' (some p) := by
  have st := fun q n => src_step hs q _ (wrap_in n)
  have St := Lib.hid st
  clear st
  obtain ⟨h0, h1, ⟨x, h2, _, _⟩, f1, f2⟩ := hs
  have hn := hc.le
  by_cases hlt : k < n
  · obtain ⟨a, y, rfl, hab, hy, hy0, hy1⟩ := hc.byte k hlt
    clear hc
    go_enter Try.func63, Try.ntmps63
    go_wp2
    go_quiet (fail)
    go_wp2
    go_quiet (fail)
    go_wp2
    generalize hW2 : World.setCell (World.setCell (World.drewN w _) _ _) _ _ = W2
    obtain ⟨hS, hG⟩ : SrcAt W2 p (some a) n c (k + 1) ∧ w.grownBy W2 (some p) := by rw [← hW2]; exact St.out _ _
    clear hW2
    have hS' := Lib.hid hS
    obtain ⟨h0', h1', ⟨x', h2', hx0, hx1⟩, _, _⟩ := hS
    rw [show ((k + 1 : Nat) : Int) = (k : Int) + 1 from by omega] at h1'
    go_wp2
    go_quiet (fail)
    go_wp2
    go_ret
    exact ⟨y, hy0, hy1, rfl, hS'.out.drewN _, ⟨hG.os, hG.tape, hG.output, hG.size, hG.block⟩⟩
  · have hge : n ≤ k := by omega
    clear hc
    go_enter Try.func63, Try.ntmps63
    go_wp2
    go_quiet (fail)
    go_wp2
    generalize hW2 : World.setCell (World.setCell (World.drewN w _) _ _) _ _ = W2
    obtain ⟨hS, hG⟩ : SrcAt W2 p A n c (k + 1) ∧ w.grownBy W2 (some p) := by rw [← hW2]; exact St.out _ _
    clear hW2
    have hS' := Lib.hid hS
    obtain ⟨h0', h1', ⟨x', h2', hx0, hx1⟩, _, _⟩ := hS
    rw [show ((k + 1 : Nat) : Int) = (k : Int) + 1 from by omega] at h1'
    go_wp2
    go_quiet (fail)
    go_wp2
    go_ret
    obtain ⟨lo, hi⟩ := low_byte x' hx0 hx1
    exact ⟨_, lo, hi, rfl, hS'.out.drewN _, ⟨hG.os, hG.tape, hG.output, hG.size, hG.block⟩⟩

theorem grown_two {a b c : World} {p : Nat} (h : a.grownBy b (some p)) (k : b.grownBy c (some p)) : a.grownBy c (some p) :=
  ⟨k.os.trans h.os, k.tape.trans h.tape, k.output.trans h.output, Nat.le_trans h.size k.size, fun j hj hr => (k.block j (by have := h.size; omega) hr).trans (h.block j hj hr)⟩
theorem CodeAt.grown {B p : Nat} {W W' : World} {A : Option Addr} {n : Nat} (h : CodeAt B W A n) (hB : B ≤ p) (hB' : B ≤ W.heap.size) (hg : W.grownBy W' (some p)) : CodeAt B W' A n :=
  ⟨h.le, fun j hj => by
    obtain ⟨a, x, h1, h2, h3, h4⟩ := h.byte j hj
    have e : (a.add j).block = a.block := by unfold Addr.add; split <;> rfl
    refine ⟨a, x, h1, h2, ?_, h4⟩
    rw [World.cell?_of_block (hg.block _ (by omega) (by simp; omega)), h3]⟩

/-- What a choice leaves: a number below m, and the source further on. -/
def PickPost (p : Nat) (A : Option Addr) (n c k : Nat) (m : Int) (w : World) (e : Ending) (w' : World) : Prop :=
  ∃ v : Int, 0 ≤ v ∧ v < m ∧ e = .returned (.int .i64 v) ∧ SrcAt w' p A n c (k + 1) ∧ w.grownBy w' (some p)
theorem draw_pick (p : Nat) (A : Option Addr) (n c k : Nat) (m : Int) (w : World) (hc : CodeAt p w A n) (hs : SrcAt w p A n c k) (hk : k ≤ 100000) (hm : 2 ≤ m) (hm2 : m ≤ 200) :
    Calls Try.prog 49 #[.pointer (some ⟨p, 0, none⟩), .int .i64 m] w (PickPost p A n c k m w) := by
  have st := draw_next p A n c k w hc hs hk
  have St := Lib.hid st
  clear st hc hs
  go_enter Try.func49, Try.ntmps49
  go_wp2_with (go_at_call 63; refine St.out.mono ?_; rintro e w1 ⟨v, h0, h1, rfl, hS, hG⟩)
  have e : v.tmod m = v % m := Int.tmod_eq_emod_of_nonneg h0
  go_ret
  exact ⟨v % m, Int.emod_nonneg _ (by omega), Int.emod_lt_of_pos _ (by omega), by simp [go_sem], hS, hG⟩
def OnePost (p : Nat) (A : Option Addr) (n c k : Nat) (w : World) (e : Ending) (w' : World) : Prop :=
  ∃ b : Bool, e = .returned (.bool b) ∧ SrcAt w' p A n c (k + 1) ∧ w.grownBy w' (some p)
theorem draw_one (p : Nat) (A : Option Addr) (n c k : Nat) (m : Int) (w : World) (hc : CodeAt p w A n) (hs : SrcAt w p A n c k) (hk : k ≤ 100000) (hm : 2 ≤ m) (hm2 : m ≤ 200) :
    Calls Try.prog 48 #[.pointer (some ⟨p, 0, none⟩), .int .i64 m] w (OnePost p A n c k w) := by
  have st := draw_pick p A n c k m w hc hs hk hm hm2
  have St := Lib.hid st
  clear st hc hs
  go_enter Try.func48, Try.ntmps48
  go_wp2_with (go_at_call 49; refine St.out.mono ?_; rintro e w1 ⟨v, h0, h1, rfl, hS, hG⟩)
  go_ret
  exact ⟨_, rfl, hS, hG⟩
theorem draw_from (A : Option Addr) (n c : Nat) (w : World) :
    Calls Try.prog 30 #[.slice A n c] w fun e w' => e = .returned (.pointer (some ⟨w.heap.size, 0, none⟩)) ∧ SrcAt w' w.heap.size A n c 0 ∧ w' = w.alloc (.cells #[.slice A n c, .int .i64 0, .int .u64 0] 73) := by
  go_enter Try.func30, Try.ntmps30
  go_wp2
  go_ret
  exact ⟨rfl, ⟨by simp [go_sem], by simp [go_sem], ⟨0, by simp [go_sem], by decide, by decide⟩, by simp [go_sem], by simp [go_sem]⟩, rfl⟩
end Go.Proofs.Ytnclhgaikglbgaa
