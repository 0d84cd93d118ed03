import Derived.Test.YtnclhgaikglbgaaMFnPutAndCut2
import Derived.RangeFuncNested
import Derived.RangeFuncBound
import Derived.RangeFuncCalls
import Derived.RangeFuncLeaves
import Derived.RangeFuncFrom
import Derived.Shelf.Abstract
import Derived.Shelf.RegionOpen
import Derived.OwnWalkIn
import Derived.TacticsInMore
import Derived.LoopNIn
import Derived.LoopIn
/- readNested: a text of at most 60 symbols is read; any other text is refused, its panic being recovered. -/
namespace Go.Proofs.Ytnclhgaikglbgaa
open Go.RowKit

/-- The symbols' numbers, and the kinds, of a text. -/
def symL (l : List UInt8) : List Int := l.map fun b => symNo b.toNat
def ksOf (l : List UInt8) : List Nat := l.map fun b => kindS (symNo b.toNat)
def AllSym (l : List UInt8) : Prop := ∀ b ∈ l, 0 ≤ symNo b.toNat

theorem symL_len (l : List UInt8) : (symL l).length = l.length := by simp [symL]
theorem symL_snoc (l : List UInt8) (b : UInt8) : symL (l ++ [b]) = symL l ++ [symNo b.toNat] := by simp [symL]
theorem symL_ok {l : List UInt8} (h : AllSym l) : ∀ x ∈ symL l, 0 ≤ x ∧ x ≤ 5 := by
  intro x hx
  simp only [symL, List.mem_map] at hx
  obtain ⟨b, hb, rfl⟩ := hx
  exact ⟨h b hb, symNo_le _⟩
theorem symL_kinds (l : List UInt8) : (symL l).map kindS = ksOf l := by simp [symL, ksOf]

theorem info_sym : (Try.prog.info? 58).map (fun i => (i.zero, i.size, i.bytes)) = some (some (.int .u8 0), 1, 1) := by kernel_rfl

/-- What holds at the head of each round of the reader: B is the heap's size when the call began. -/
structure NRel (w : World) (B n : Nat) (l : List UInt8) (k : Nat) (wr : World) : Prop where
  rowS : wr.ownsRow (B + 1 + 1) 58 1 (.slice (some ⟨B + 1 + 1, 0, none⟩) k n) k (symsV (symL (l.take k)))
  c0 : wr.cell? ⟨B, 0, none⟩ = some (.slice none 0 0)
  c1 : wr.cell? ⟨B, 1, none⟩ = some (.slice none 0 0)
  c2 : wr.cell? ⟨B + 1, 0, none⟩ = some (.bool false)
  f0 : wr.frozen? ⟨B, 0, none⟩ = false
  f1 : wr.frozen? ⟨B, 1, none⟩ = false
  f2 : wr.frozen? ⟨B + 1, 0, none⟩ = false
  below : Below B w wr
  size : B + 1 + 1 < wr.heap.size

theorem NRel.next {w wr w2 : World} {B n : Nat} {l : List UInt8} {k : Nat} {o : Obj} {b : UInt8} (h : NRel w B n l k wr) (hk : l[k]? = some b)
    (hown : w2.ownsRow (B + 1 + 1) 58 1 (.slice (some ⟨B + 1 + 1, 0, none⟩) (k + 1) n) (k + 1) (symsV (symL (l.take k)) ++ [.int .u8 (symNo b.toNat)]))
    (hg : (wr.alloc o).grownBy w2 (some (B + 1 + 1))) : NRel w B n l (k + 1) w2 := by
  have hs := h.size
  have cell (b j : Nat) (hb : b < B + 2) : w2.cell? ⟨b, j, none⟩ = wr.cell? ⟨b, j, none⟩ := by
    refine World.cell?_of_block ?_
    rw [hg.block b (by simp; omega) (by simp; omega)]
    exact Below.heap_alloc _ _ _ (by omega)
  have frz (b j : Nat) (hb : b < B + 2) : w2.frozen? ⟨b, j, none⟩ = wr.frozen? ⟨b, j, none⟩ := by
    refine World.frozen?_of_block ?_
    rw [hg.block b (by simp; omega) (by simp; omega)]
    exact Below.heap_alloc _ _ _ (by omega)
  refine ⟨?_, (cell _ _ (by omega)).trans h.c0, (cell _ _ (by omega)).trans h.c1, (cell _ _ (by omega)).trans h.c2, (frz _ _ (by omega)).trans h.f0, (frz _ _ (by omega)).trans h.f1,
    (frz _ _ (by omega)).trans h.f2, (h.below.alloc (by omega) o).grown hg (by simp; omega) (fun j e => by simp at e; omega), ?_⟩
  · rw [List.take_add_one, hk, Option.toList_some, symL_snoc]
    simpa [symsV] using hown
  · have := hg.size
    simp at this
    omega

theorem NRel.behind {w wr w1 : World} {B n : Nat} {l : List UInt8} {k : Nat} (h : NRel w B n l k wr) (hb : Below wr.heap.size wr w1) :
    w1.cell? ⟨B, 0, none⟩ = some (.slice none 0 0) ∧ w1.cell? ⟨B, 1, none⟩ = some (.slice none 0 0) ∧ w1.cell? ⟨B + 1, 0, none⟩ = some (.bool false) ∧
      w1.frozen? ⟨B, 0, none⟩ = false ∧ w1.frozen? ⟨B, 1, none⟩ = false ∧ w1.frozen? ⟨B + 1, 0, none⟩ = false := by
  have hs := h.size
  exact ⟨(hb.cell (p := ⟨B, 0, none⟩) (by simp; omega)).trans h.c0, (hb.cell (p := ⟨B, 1, none⟩) (by simp; omega)).trans h.c1, (hb.cell (p := ⟨B + 1, 0, none⟩) (by simp; omega)).trans h.c2,
    (hb.frozen (p := ⟨B, 0, none⟩) (by simp; omega)).trans h.f0, (hb.frozen (p := ⟨B, 1, none⟩) (by simp; omega)).trans h.f1, (hb.frozen (p := ⟨B + 1, 0, none⟩) (by simp; omega)).trans h.f2⟩

def ReadYes (n : Nat) (l : List UInt8) (w : World) (e : Ending) (w' : World) : Prop :=
  ∃ M, e = .returned (.tuple #[.agg #[.slice (some ⟨w.heap.size + 1 + 1, 0, none⟩) n n, .slice (some ⟨M, 0, none⟩) n n], .bool true]) ∧
    w'.ownsRow w.heap.size 58 1 (.slice (some ⟨w.heap.size + 1 + 1, 0, none⟩) n n) n (symsV (symL l)) ∧
    w'.ownsRow w.heap.size 2 1 (.slice (some ⟨M, 0, none⟩) n n) n (numsV (prts (ksOf l))) ∧ Below w.heap.size w w'

def ReadNo (w : World) (e : Ending) (w' : World) : Prop :=
  e = .returned (.tuple #[.agg #[.slice none 0 0, .slice none 0 0], .bool false]) ∧ Below w.heap.size w w'

set_option maxHeartbeats 800000 in
set_option maxRecDepth 100000 in
theorem impl_read_long (s : ByteArray) (w : World) (h : 60 < s.size) (hs : s.size ≤ 1048576) :
    Calls Try.prog 31 #[.string s] w (ReadNo w) := by
  go_enter_defers Try.func31, Try.ntmps31
  go_wp2
  simp [bodyPostD, Leaves, results, Try.results31, go_sem]
  exact ⟨rfl, ((Below.refl _ _).alloc (Nat.le_refl _) _).alloc (by simp) _⟩

theorem NRel.start (w : World) (l : List UInt8) (hl : l.length ≤ 60) :
    NRel w w.heap.size l.length l 0 (((w.alloc (.cells #[.slice none 0 0, .slice none 0 0] 50)).alloc (.cells #[.bool false] 4)).alloc (.cells (madeCells #[.int .u8 0] l.length) 58)) := by
  refine ⟨?_, by simp [go_sem], by simp [go_sem], by simp [go_sem], by simp [go_sem], by simp [go_sem], by simp [go_sem], (((Below.refl _ _).alloc (Nat.le_refl _) _).alloc (by simp) _).alloc (by simp; omega) _, by simp⟩
  have h := World.ownsRow_made (base := w.heap.size + 1 + 1) (e := 58) (size := 1) ((w.alloc (.cells #[.slice none 0 0, .slice none 0 0] 50)).alloc (.cells #[.bool false] 4)) (madeCells #[.int .u8 0] l.length) l.length (by simp) (by unfold maxLen; omega) (by simp [size_madeCells])
  simpa [symsV, symL] using h

set_option maxHeartbeats 1600000 in
set_option maxRecDepth 100000 in
theorem impl_read_yes (s : ByteArray) (w : World) (h : s.size ≤ 60) (hall : AllSym s.data.toList) :
    Calls Try.prog 31 #[.string s] w (ReadYes s.size s.data.toList w) := by
  have hmf : ∀ (fn : Fn) (first cap : Array Value) (w : World), (Instr.makeFunc fn first cap).run Try.prog w = .ok (.func fn first cap) w := fun _ _ _ _ => rfl
  obtain ⟨i0, hi, hz0, hz1, hz2⟩ := info_parts info_sym
  have hmk : ∀ W : World, (Instr.makeSlice 48 (.int .i64 0) (.int .i64 (s.size : Int))).run Try.prog W = .ok (.slice (some ⟨W.heap.size, 0, none⟩) 0 s.size) (W.alloc (.cells (madeCells #[.int .u8 0] s.size) 58)) := by
    intro W
    have := run_make (P := Try.prog) W 48 58 i0 (.int .u8 0) Try.underlying48 hi hz0 .i64 .i64 0 (s.size : Int) (by omega) (by omega) (by rw [hz2]; omega) (by omega)
    rw [hz1] at this
    simpa [Value.cells] using this
  obtain ⟨l, hl⟩ : ∃ l, l = s.data.toList := ⟨_, rfl⟩
  have hlen : l.length = s.size := by rw [hl]; simp
  rw [← hl] at hall ⊢
  have Hl := Lib.hid hl
  have Hlen := Lib.hid hlen
  have Hall := Lib.hid hall
  clear hl hlen hall
  go_enter_defers Try.func31, Try.ntmps31
  go_wp2
  go_loopw [4, 16] (fun v i wr => ∃ k : Nat, k ≤ s.size ∧ i = .int .i64 k ∧ v = .slice (some ⟨w.heap.size + 1 + 1, 0, none⟩) k s.size ∧ NRel w w.heap.size s.size l k wr) (fun _ i _ => s.size - (intOf i).toNat)
  case atStart => exact ⟨0, Nat.zero_le _, rfl, rfl, by rw [← Hlen.out]; exact NRel.start w l (by rw [Hlen.out]; exact h)⟩
  case round =>
    obtain ⟨k, hk, rfl, rfl, hR⟩ := hrel
    by_cases hlt : k < s.size
    · have hb : Hid (l[k]? = some s[k]) := by
        show _ = _
        rw [Hl.out, List.getElem?_eq_getElem (by simpa using hlt)]
        rfl
      have hsy : 0 ≤ symNo (s[k].toNat : Int) := Hall.out _ (List.mem_of_getElem? hb.out)
      go_wp2_with (first
        | (go_at_call 54; refine (impl_symbolOf _ _ hsy).mono ?_; rintro e w' ⟨rfl, rfl⟩)
        | (at_builtin; refine wpList_append_fits _ rfl _ _ 48 rfl (w.heap.size + 1 + 1) 58 i0 1 Try.underlying48 hi hz1 (w.heap.size + 1 + 1) k s.size (symsV (symL (l.take k))) rfl ?c0 ⟨wr.heap.size, 0, none⟩ 1 1 [.int .u8 (symNo (s[k].toNat : Int))] rfl rfl ?c1 ?c2 ?c3 ?_))
      case c0 => exact hR.rowS.alloc _
      case c1 => exact cell_one_new _ _ _
      case c2 => simp [Value.oneCell']
      case c3 => omega
      intro w1 hown hg
      have hR' := hR.next hb.out hown hg
      clear hown hg
      go_wp2
      go_roundw
      case rel => exact ⟨k + 1, by omega, by go_num, rfl, hR'⟩
      case measure => simp [intOf]; omega
    · have e : k = s.size := by omega
      subst e
      have hrow := hR.rowS
      rw [List.take_of_length_le (by rw [Hlen.out]; exact Nat.le_refl _)] at hrow
      have hm := impl_match (w.heap.size + 1 + 1) s.size s.size (w.heap.size + 1 + 1) (symL l) wr h (by rw [symL_len, Hlen.out]) (symL_ok Hall.out) hrow
      rw [symL_kinds] at hm
      have Hm := Lib.hid hm
      clear hm hrow
      go_wp2_with (go_at_call 55; refine Hm.out.mono ?_; rintro e w1 ⟨rfl, hrP, hb1⟩; obtain ⟨g0, g1, g2, e0, e1, e2⟩ := hR.behind hb1)
      refine leaves_cons (f := 53) (args := #[.pointer (some ⟨w.heap.size, 0, none⟩), .pointer (some ⟨w.heap.size + 1, 0, none⟩)]) (by simp) (by simp [go_sem]) ?_
      refine (closure_idle _ _ _).mono ?_
      rintro e u' w2 ⟨rfl, rfl, rfl⟩
      simp [Leaves, settle, results, Try.results31, go_sem, g0, g1, g2]
      have hs := hR.size
      unfold ReadYes
      have r1 := row_below hR.rowS hb1
      rw [List.take_of_length_le (by rw [Hlen.out]; exact Nat.le_refl _)] at r1
      refine ⟨_, rfl, ?_, ?_, ?_⟩
      · exact row_base (ownsRow_setCell_below (ownsRow_setCell_below (ownsRow_setCell_below r1 (by simp; omega) _) (by simp; omega) _) (by simp) _) (by omega)
      · exact row_base (ownsRow_setCell_below (ownsRow_setCell_below (ownsRow_setCell_below hrP (by simp; omega) _) (by simp; omega) _) (by simp; omega) _) (by omega)
      · exact (((hR.below.trans (hb1.mono (by omega))).setCell (p := ⟨w.heap.size, 0, none⟩) (Nat.le_refl _) _).setCell (p := ⟨w.heap.size, 1, none⟩) (Nat.le_refl _) _).setCell (p := ⟨w.heap.size + 1, 0, none⟩) (by simp) _

set_option maxHeartbeats 1600000 in
set_option maxRecDepth 100000 in
theorem impl_read_bad (s : ByteArray) (w : World) (h : s.size ≤ 60) (j : Nat) (b : UInt8) (hj : s.data.toList[j]? = some b) (hbad : symNo b.toNat < 0) (hgood : AllSym (s.data.toList.take j)) :
    Calls Try.prog 31 #[.string s] w (ReadNo w) := by
  have hmf : ∀ (fn : Fn) (first cap : Array Value) (w : World), (Instr.makeFunc fn first cap).run Try.prog w = .ok (.func fn first cap) w := fun _ _ _ _ => rfl
  obtain ⟨i0, hi, hz0, hz1, hz2⟩ := info_parts info_sym
  have hmk : ∀ W : World, (Instr.makeSlice 48 (.int .i64 0) (.int .i64 (s.size : Int))).run Try.prog W = .ok (.slice (some ⟨W.heap.size, 0, none⟩) 0 s.size) (W.alloc (.cells (madeCells #[.int .u8 0] s.size) 58)) := by
    intro W
    have := run_make (P := Try.prog) W 48 58 i0 (.int .u8 0) Try.underlying48 hi hz0 .i64 .i64 0 (s.size : Int) (by omega) (by omega) (by rw [hz2]; omega) (by omega)
    rw [hz1] at this
    simpa [Value.cells] using this
  obtain ⟨l, hl⟩ : ∃ l, l = s.data.toList := ⟨_, rfl⟩
  have hlen : l.length = s.size := by rw [hl]; simp
  rw [← hl] at hj hgood
  have hjn : j < s.size := by rw [← hlen]; exact (List.getElem?_eq_some_iff.1 hj).1
  have Hl := Lib.hid hl
  have Hlen := Lib.hid hlen
  have Hgood := Lib.hid hgood
  have Hj := Lib.hid hj
  clear hl hlen hgood hj
  go_enter_defers Try.func31, Try.ntmps31
  go_wp2
  go_loopw [4, 16] (fun v i wr => ∃ k : Nat, k ≤ j ∧ i = .int .i64 k ∧ v = .slice (some ⟨w.heap.size + 1 + 1, 0, none⟩) k s.size ∧ NRel w w.heap.size s.size l k wr) (fun _ i _ => s.size - (intOf i).toNat)
  case atStart => exact ⟨0, Nat.zero_le _, rfl, rfl, by rw [← Hlen.out]; exact NRel.start w l (by rw [Hlen.out]; exact h)⟩
  case round =>
    obtain ⟨k, hk, rfl, rfl, hR⟩ := hrel
    have hb : k < s.size → Hid (l[k]? = some (s[k]'(by omega))) := fun hks => by
      show _ = _
      rw [Hl.out, List.getElem?_eq_getElem (by simpa using hks)]
      rfl
    by_cases hlt : k < j
    · have hks : k < s.size := by omega
      have hb := hb hks
      have hsy : 0 ≤ symNo (s[k].toNat : Int) := Hgood.out _ (List.mem_of_getElem? (by rw [List.getElem?_take_of_lt hlt]; exact hb.out))
      go_wp2_with (first
        | (go_at_call 54; refine (impl_symbolOf _ _ hsy).mono ?_; rintro e w' ⟨rfl, rfl⟩)
        | (at_builtin; refine wpList_append_fits _ rfl _ _ 48 rfl (w.heap.size + 1 + 1) 58 i0 1 Try.underlying48 hi hz1 (w.heap.size + 1 + 1) k s.size (symsV (symL (l.take k))) rfl ?c0 ⟨wr.heap.size, 0, none⟩ 1 1 [.int .u8 (symNo (s[k].toNat : Int))] rfl rfl ?c1 ?c2 ?c3 ?_))
      case c0 => exact hR.rowS.alloc _
      case c1 => exact cell_one_new _ _ _
      case c2 => simp [Value.oneCell']
      case c3 => omega
      intro w1 hown hg
      have hR' := hR.next hb.out hown hg
      clear hown hg
      go_wp2
      go_roundw
      case rel => exact ⟨k + 1, by omega, by go_num, rfl, hR'⟩
      case measure => simp [intOf]; omega
    · have e : k = j := by omega
      subst e
      have hb := hb hjn
      have hx : s[k] = b := by
        have e1 := hb.out
        rw [Hj.out] at e1
        exact (Option.some.inj e1).symm
      have hsy : symNo (s[k].toNat : Int) < 0 := by rw [hx]; exact hbad
      clear hx hb
      have g0 := hR.c0
      have g1 := hR.c1
      have g2 := hR.c2
      have e0 := hR.f0
      have e1 := hR.f1
      have e2 := hR.f2
      go_wp2_with (go_at_call 54; refine (impl_symbolOf_none _ _ hsy).mono ?_; rintro e w' ⟨rfl, rfl⟩)
      refine leaves_cons (f := 53) (args := #[.pointer (some ⟨w.heap.size, 0, none⟩), .pointer (some ⟨w.heap.size + 1, 0, none⟩)]) (by simp) (by simp [go_sem]) ?_
      refine (closure_panicking w.heap.size (w.heap.size + 1) _ _ _ _ _ [] _ (by omega) g0 g1 g2 e0 e1 e2).mono ?_
      rintro e u' w2 ⟨rfl, rfl, rfl⟩
      simp [Leaves, settle, results, Try.results31, go_sem, g0, g1, g2]
      exact ⟨rfl, ((hR.below.setCell (p := ⟨w.heap.size, 0, none⟩) (Nat.le_refl _) _).setCell (p := ⟨w.heap.size, 1, none⟩) (Nat.le_refl _) _).setCell (p := ⟨w.heap.size + 1, 0, none⟩) (by simp) _⟩
end Go.Proofs.Ytnclhgaikglbgaa
/- What is a word: l01Ok and readNested agree. -/
namespace Go.Proofs.Ytnclhgaikglbgaa
open Go.RowKit

theorem first_bad (l : List UInt8) (h : ¬ AllSym l) : ∃ (j : Nat) (b : UInt8), l[j]? = some b ∧ symNo b.toNat < 0 ∧ AllSym (l.take j) := by
  induction l with
  | nil => exact absurd (by intro b hb; cases hb) h
  | cons a l ih =>
    by_cases ha : 0 ≤ symNo a.toNat
    · have h' : ¬ AllSym l := fun hl => h (by
        intro b hb
        rcases List.mem_cons.1 hb with rfl | hb
        · exact ha
        · exact hl b hb)
      obtain ⟨j, b, h1, h2, h3⟩ := ih h'
      refine ⟨j + 1, b, by simpa using h1, h2, ?_⟩
      intro c hc
      rw [List.take_succ_cons] at hc
      rcases List.mem_cons.1 hc with rfl | hc
      · exact ha
      · exact h3 c hc
    · exact ⟨0, a, rfl, by omega, by intro c hc; simp at hc⟩

def IsW (s : ByteArray) : Prop := s.size ≤ 60 ∧ AllSym s.data.toList

theorem impl_read_no (s : ByteArray) (w : World) (hs : s.size ≤ 1048576) (h : ¬ IsW s) : Calls Try.prog 31 #[.string s] w (ReadNo w) := by
  by_cases h60 : s.size ≤ 60
  · obtain ⟨j, b, h1, h2, h3⟩ := first_bad s.data.toList (fun ha => h ⟨h60, ha⟩)
    exact impl_read_bad s w h60 j b h1 h2 h3
  · exact impl_read_long s w (by omega) hs

set_option maxHeartbeats 800000 in
theorem spec_ok_all (s : ByteArray) (w : World) (hs : s.size ≤ 1048576) (hall : AllSym s.data.toList) :
    Calls Try.prog 44 #[.string s] w fun e w' => e = .returned (.bool (decide (s.size ≤ 60))) ∧ w = w' := by
  have Hall := Lib.hid hall
  clear hall
  go_enter Try.func44, Try.ntmps44
  go_wp2
  go_loop [3] (fun i => ∃ k : Nat, k ≤ s.size ∧ i = .int .i64 k) (fun i => s.size - (intOf i).toNat)
  case atStart => exact ⟨0, Nat.zero_le _, rfl⟩
  case round =>
    obtain ⟨k, hk, rfl⟩ := hrel
    by_cases hlt : k < s.size
    · have hsy : 0 ≤ symNo (s[k].toNat : Int) := Hall.out _ (by
        have : s.data.toList[k]? = some s[k] := by rw [List.getElem?_eq_getElem (by simpa using hlt)]; rfl
        exact List.mem_of_getElem? this)
      go_wp2_with (go_at_call 62; refine (spec_symbol _ _).mono ?_; rintro e w' ⟨rfl, rfl⟩)
      go_round
      case rel => exact ⟨k + 1, by omega, by go_num⟩
      case measure => simp [intOf]; omega
    · go_wp2
      go_ret
      exact ⟨by simp; omega, rfl⟩

set_option maxHeartbeats 800000 in
theorem spec_ok_bad (s : ByteArray) (w : World) (hs : s.size ≤ 1048576) (j : Nat) (b : UInt8) (hj : s.data.toList[j]? = some b) (hbad : symNo b.toNat < 0) (hgood : AllSym (s.data.toList.take j)) :
    Calls Try.prog 44 #[.string s] w fun e w' => e = .returned (.bool false) ∧ w = w' := by
  have hjn : j < s.size := by have := (List.getElem?_eq_some_iff.1 hj).1; simpa using this
  have Hgood := Lib.hid hgood
  have Hj := Lib.hid hj
  clear hgood hj
  go_enter Try.func44, Try.ntmps44
  go_wp2
  go_loop [3] (fun i => ∃ k : Nat, k ≤ j ∧ i = .int .i64 k) (fun i => s.size - (intOf i).toNat)
  case atStart => exact ⟨0, Nat.zero_le _, rfl⟩
  case round =>
    obtain ⟨k, hk, rfl⟩ := hrel
    have hks : k < s.size := by omega
    have hb : Hid (s.data.toList[k]? = some s[k]) := by
      show _ = _
      rw [List.getElem?_eq_getElem (by simpa using hks)]; rfl
    by_cases hlt : k < j
    · have hsy : 0 ≤ symNo (s[k].toNat : Int) := Hgood.out _ (List.mem_of_getElem? (by rw [List.getElem?_take_of_lt hlt]; exact hb.out))
      go_wp2_with (go_at_call 62; refine (spec_symbol _ _).mono ?_; rintro e w' ⟨rfl, rfl⟩)
      go_round
      case rel => exact ⟨k + 1, by omega, by go_num⟩
      case measure => simp [intOf]; omega
    · have e : k = j := by omega
      subst e
      have hx : s[k] = b := by
        have e1 := hb.out
        rw [Hj.out] at e1
        exact (Option.some.inj e1).symm
      have hsy : symNo (s[k].toNat : Int) < 0 := by rw [hx]; exact hbad
      clear hx hb
      go_wp2_with (go_at_call 62; refine (spec_symbol _ _).mono ?_; rintro e w' ⟨rfl, rfl⟩)
      go_ret
      exact ⟨rfl, rfl⟩

theorem spec_ok_yes (s : ByteArray) (w : World) (h : IsW s) :
    Calls Try.prog 44 #[.string s] w fun e w' => e = .returned (.bool true) ∧ w = w' := by
  refine (spec_ok_all s w (by have := h.1; omega) h.2).mono ?_
  rintro e w' ⟨rfl, rfl⟩
  exact ⟨by simp [h.1], rfl⟩
theorem spec_ok_no (s : ByteArray) (w : World) (hs : s.size ≤ 1048576) (h : ¬ IsW s) :
    Calls Try.prog 44 #[.string s] w fun e w' => e = .returned (.bool false) ∧ w = w' := by
  by_cases ha : AllSym s.data.toList
  · have h60 : ¬ s.size ≤ 60 := fun h' => h ⟨h', ha⟩
    refine (spec_ok_all s w hs ha).mono ?_
    rintro e w' ⟨rfl, rfl⟩
    exact ⟨by simp; omega, rfl⟩
  · obtain ⟨j, b, h1, h2, h3⟩ := first_bad s.data.toList ha
    exact spec_ok_bad s w hs j b h1 h2 h3
end Go.Proofs.Ytnclhgaikglbgaa
/- The pending places: the iterator pendingPlaces by its contract, and isMatched. -/
namespace Go.Proofs.Ytnclhgaikglbgaa
open Go.RowKit Go.Shelf

attribute [local go_sem] Oper.semAt_some

/-- A place and its symbol's number. -/
abbrev PS : Type := { x : Int × Int // 0 ≤ x.2 ∧ x.2 ≤ 5 }
/-- What is pending among the first k places, in order. -/
def pend (sy ps : List Int) : Nat → List PS
  | 0 => []
  | k + 1 => pend sy ps k ++ (if h : ps[k]? = some (-2) ∧ 0 ≤ (sy[k]?.getD 0) ∧ (sy[k]?.getD 0) ≤ 5 then [⟨((k : Int), sy[k]?.getD 0), h.2⟩] else [])

theorem pend_yes {sy ps : List Int} {k : Nat} (h : ps[k]? = some (-2)) (h5 : 0 ≤ (sy[k]?.getD 0) ∧ (sy[k]?.getD 0) ≤ 5) : pend sy ps (k + 1) = pend sy ps k ++ [⟨((k : Int), sy[k]?.getD 0), h5⟩] := by
  rw [pend, dif_pos ⟨h, h5⟩]
theorem pend_no {sy ps : List Int} {k : Nat} (h : ps[k]? ≠ some (-2)) : pend sy ps (k + 1) = pend sy ps k := by
  rw [pend, dif_neg (fun h' => h h'.1), List.append_nil]
theorem pend_len (sy ps : List Int) (k : Nat) : (pend sy ps k).length ≤ k := by
  induction k with
  | zero => simp [pend]
  | succ k ih =>
    rw [pend, List.length_append]
    split <;> simp <;> omega
theorem pend_prefix (sy ps : List Int) (k m : Nat) : pend sy ps k <+: pend sy ps (k + m) := by
  induction m with
  | zero => exact List.prefix_refl _
  | succ m ih => exact ih.trans (by rw [← Nat.add_assoc, pend]; exact List.prefix_append _ _)

/-- What a round that goes on keeps: what lay below n₀, and the iterator's own box. -/
def KpB (n₀ Bs : Nat) (W W' : World) : Prop := Below n₀ W W' ∧ W'.heap[Bs]? = W.heap[Bs]?
theorem KpB.refl (n₀ Bs : Nat) (W : World) : KpB n₀ Bs W W := ⟨Below.refl _ _, rfl⟩
theorem kpB_t {n₀ Bs : Nat} {A B C : World} (h : KpB n₀ Bs A B) (k : KpB n₀ Bs B C) : KpB n₀ Bs A C := ⟨h.1.trans k.1, k.2.trans h.2⟩
theorem kpB_b {n₀ Bs : Nat} {w : World} (hn : n₀ ≤ w.heap.size) (hB : Bs < w.heap.size) (W : World) (l : Nat) (o o' : Obj) (hl : w.heap.size ≤ l) (h : W.heap[l]? = some o) (h1 : o.isCells = false) (h2 : o.isWalk = false) : KpB n₀ Bs W (W.putObj l o') :=
  ⟨belowK_b hn W l o o' hl h h1 h2, (grownBy_putObj' W l o').block Bs (by have := (Array.getElem?_eq_some_iff.1 h).1; omega) (by simp; omega)⟩

/-- The iterator's box and the rows to which it leads. -/
structure NestAt (W : World) (Bs g M N c c' : Nat) (sy ps : List Int) : Prop where
  b0 : W.cell? ⟨Bs, 0, none⟩ = some (.slice (some ⟨g, 0, none⟩) N c)
  b1 : W.cell? ⟨Bs, 1, none⟩ = some (.slice (some ⟨M, 0, none⟩) N c')
  cs : ∀ (j : Nat) (x : Int), sy[j]? = some x → W.cell? ⟨g, j, none⟩ = some (.int .u8 x)
  cp : ∀ (j : Nat) (x : Int), ps[j]? = some x → W.cell? ⟨M, j, none⟩ = some (.int .i64 x)
theorem NestAt.kept {W W' : World} {n₀ Bs g M N c c' : Nat} {sy ps : List Int} (h : NestAt W Bs g M N c c' sy ps) (hg : g < n₀) (hM : M < n₀) (hk : KpB n₀ Bs W W') : NestAt W' Bs g M N c c' sy ps :=
  ⟨(World.cell?_of_block (a := ⟨Bs, 0, none⟩) hk.2).trans h.b0, (World.cell?_of_block (a := ⟨Bs, 1, none⟩) hk.2).trans h.b1,
    fun j x hx => (hk.1.cell (p := ⟨g, j, none⟩) hg).trans (h.cs j x hx), fun j x hx => (hk.1.cell (p := ⟨M, j, none⟩) hM).trans (h.cp j x hx)⟩

set_option maxRecDepth 100000 in
set_option maxHeartbeats 2000000 in
theorem pend1_in (F : Fence) (n : Nat) (hf : F.fn 57) (hro : F.round = none) (hn : 1 ≤ n) (l Bs n₀ g M N c c' : Nat) (sy ps : List Int) (hN : N ≤ 60) (hsl : sy.length = N) (hpl : ps.length = N)
    (hg : g < n₀) (hM : M < n₀) (hok : ∀ x ∈ sy, 0 ≤ x ∧ x ≤ 5) (J Jx : List PS → World → Prop)
    (hY : ∀ pre (x : PS) W, J pre W → pre.length < N → YieldAt F (n - 1) Try.prog l #[.int .i64 x.1.1, .int .u8 x.1.2] W fun e W' =>
      (e = .returned (.bool true) ∧ J (pre ++ [x]) W' ∧ KpB n₀ Bs W W') ∨ (e = .returned (.bool false) ∧ Jx (pre ++ [x]) W'))
    (W : World) (hA : NestAt W Bs g M N c c' sy ps) (h0 : J [] W) :
    CallsIn F n Try.prog 57 #[.func (.yield l) #[] #[], .pointer (some ⟨Bs, 0, none⟩)] W fun e W' => (∃ v, e = .returned v) ∧
      ((∃ ys, ys = pend sy ps N ∧ J ys W') ∨ (∃ pre, (∃ k, k ≤ N ∧ pre = pend sy ps k ∧ pre ≠ []) ∧ Jx pre W')) := by
  have hb0 := hA.b0
  have Hsl := Lib.hid hsl
  have Hpl := Lib.hid hpl
  have Hok := Lib.hid hok
  clear hsl hpl hok
  refine callsIn_of_wp Try.func57 rfl hf ?_ hro
  simp only [Try.ntmps57, List.size_toArray, List.length_cons, List.length_nil, Nat.reduceAdd, Nat.reduceSub, Array.replicate_succ, Array.replicate_zero, List.push_toArray, List.append_toArray, List.nil_append, List.cons_append]
  gi_wp2
  gi_loopw [8] (fun i wr => ∃ k : Nat, k ≤ N ∧ i = .int .i64 k ∧ J (pend sy ps k) wr ∧ KpB n₀ Bs W wr)
    (fun i _ => N - (intOf i).toNat)
  case atStart => exact ⟨0, Nat.zero_le _, rfl, h0, KpB.refl _ _ _⟩
  case round =>
    obtain ⟨k, hk, rfl, hJs, hnx⟩ := hrel
    have hA' := hA.kept hg hM hnx
    by_cases hlt : k < N
    · have hs : Hid (sy[k]? = some (sy[k]?.getD 0)) := by
        show _ = _
        rw [List.getElem?_eq_getElem (by rw [Hsl.out]; exact hlt)]; rfl
      have hx5 := Hok.out _ (List.mem_of_getElem? hs.out)
      obtain ⟨p, hp⟩ : ∃ p, ps[k]? = some p := ⟨_, List.getElem?_eq_getElem (by rw [Hpl.out]; exact hlt)⟩
      have hcs := hA'.cs k _ hs.out
      have hcp := hA'.cp k _ hp
      have hb1 := hA'.b1
      by_cases h2 : p = -2
      · subst h2
        have hpl' := pend_len sy ps k
        obtain ⟨fn, tmps, assign, body, hy, hR⟩ := hY _ ⟨((k : Int), sy[k]?.getD 0), hx5⟩ wr hJs (by omega)
        have hpy := pend_yes hp hx5
        have Hpy := Lib.hid hpy
        have Hp := Lib.hid hp
        clear hpy hp
        dsimp only at hy
        gi_wp2
        refine hR.mono ?_
        rintro e W3 (⟨rfl, hJ3, hk3⟩ | ⟨rfl, hJx3⟩)
        · gi_wp2
          go_roundw
          case rel => exact ⟨k + 1, by omega, by go_num, by rw [Hpy.out]; exact hJ3, kpB_t hnx hk3⟩
          case measure => simp [intOf]; omega
        · gi_wp2
          refine bodyPost_ret (results_none rfl _ _ _) rfl ?_
          exact ⟨⟨_, rfl⟩, .inr ⟨_, ⟨k + 1, by omega, Hpy.out.symm, by simp⟩, hJx3⟩⟩
      · have hp2 : (p == -2) = false := by simpa using h2
        have hpn := pend_no (sy := sy) (ps := ps) (k := k) (by rw [hp]; simpa using h2)
        have Hpn := Lib.hid hpn
        have Hp := Lib.hid hp
        clear hpn hp h2
        gi_wp2
        refine ⟨fun _ h => (by cases h), ?_⟩
        gi_wp2
        go_roundw
        case rel => exact ⟨k + 1, by omega, by go_num, by rw [Hpn.out]; exact hJs, hnx⟩
        case measure => simp [intOf]; omega
    · obtain rfl : k = N := by omega
      gi_wp2
      go_end0
      exact ⟨⟨_, rfl⟩, .inl ⟨_, rfl, hJs⟩⟩

theorem pend_stops (F : Fence) (n : Nat) (hf : F.fn 57) (hro : F.round = none) (hn : 1 ≤ n) (Bs n₀ g M N c c' : Nat) (sy ps : List Int) (hN : N ≤ 60) (hsl : sy.length = N) (hpl : ps.length = N)
    (hg : g < n₀) (hM : M < n₀) (hok : ∀ x ∈ sy, 0 ≤ x ∧ x ≤ 5) (w : World) (hn₀ : n₀ ≤ w.heap.size) (hBs : Bs < w.heap.size) (hA : NestAt w Bs g M N c c' sy ps) :
    SeqStopsK F n Try.prog 57 #[.pointer (some ⟨Bs, 0, none⟩)] (fun x : PS => #[Value.int .i64 x.1.1, Value.int .u8 x.1.2]) (KpB n₀ Bs) (fun ys => ys = pend sy ps N)
      (fun pre => ∃ k, k ≤ N ∧ pre = pend sy ps k ∧ pre ≠ []) N w := fun l J Jx W hW _ _ hY h0 =>
  pend1_in F n hf hro hn l Bs n₀ g M N c c' sy ps hN hsl hpl hg hM hok J Jx hY W (hA.kept hg hM ⟨hW.mono hn₀, hW.block Bs hBs⟩) h0

theorem pendingPlaces_in (F : Fence) (n : Nat) (hf : F.fn 34) (hro : F.round = none) (v0 v1 : Value) (w : World) :
    CallsIn F n Try.prog 34 #[.agg #[v0, v1]] w fun e w' =>
      e = .returned (.func (.func 57) #[] #[.pointer (some ⟨w.heap.size, 0, none⟩)]) ∧ w' = w.alloc (.cells #[v0, v1] 50) := by
  refine callsIn_of_wp Try.func34 rfl hf ?_ hro
  simp only [Try.ntmps34, List.size_toArray, List.length_cons, List.length_nil, Nat.reduceAdd, Nat.reduceSub, Array.replicate_succ, Array.replicate_zero, List.push_toArray, List.append_toArray, List.nil_append, List.cons_append]
  gi_wp2
  go_ret
  exact ⟨rfl, rfl⟩

set_option maxRecDepth 100000 in
set_option maxHeartbeats 2000000 in
theorem impl_isMatched (g M N c c' : Nat) (sy ps : List Int) (w : World) (hN : N ≤ 60) (hsl : sy.length = N) (hpl : ps.length = N) (hg : g < w.heap.size) (hM : M < w.heap.size) (hok : ∀ x ∈ sy, 0 ≤ x ∧ x ≤ 5)
    (hcs : ∀ (j : Nat) (x : Int), sy[j]? = some x → w.cell? ⟨g, j, none⟩ = some (.int .u8 x)) (hcp : ∀ (j : Nat) (x : Int), ps[j]? = some x → w.cell? ⟨M, j, none⟩ = some (.int .i64 x)) :
    Calls Try.prog 38 #[.agg #[.slice (some ⟨g, 0, none⟩) N c, .slice (some ⟨M, 0, none⟩) N c']] w (TupPost (.bool (pend sy ps N).isEmpty) w) := by
  refine (callsIn_wide (n := 3)).1 ?_
  refine callsIn_of_wp_marks Try.func38 rfl trivial ?_ rfl
  simp only [Try.ntmps38, List.size_toArray, List.length_cons, List.length_nil, Nat.reduceAdd, Nat.reduceSub, Array.replicate_succ, Array.replicate_zero, List.push_toArray, List.append_toArray, List.nil_append, List.cons_append]
  gi_wp2_with (refine ⟨trivial, ?_⟩; gi_at_call 34; refine (pendingPlaces_in Fence.wide _ trivial rfl _ _ _).mono ?_; rintro e w' ⟨rfl, rfl⟩)
  have hb0 : Below w.heap.size w (((w.alloc (.cells #[.slice (some ⟨g, 0, none⟩) N c, .slice (some ⟨M, 0, none⟩) N c'] 50)).alloc (.cells #[.bool false] 4)).alloc (.cells #[.slice (some ⟨g, 0, none⟩) N c, .slice (some ⟨M, 0, none⟩) N c'] 50)) :=
    (((Below.refl _ w).alloc (Nat.le_refl _) _).alloc (by simp) _).alloc (by simp; omega) _
  have hA : NestAt (((w.alloc (.cells #[.slice (some ⟨g, 0, none⟩) N c, .slice (some ⟨M, 0, none⟩) N c'] 50)).alloc (.cells #[.bool false] 4)).alloc (.cells #[.slice (some ⟨g, 0, none⟩) N c, .slice (some ⟨M, 0, none⟩) N c'] 50))
      (w.heap.size + 1 + 1) g M N c c' sy ps :=
    ⟨by simp [go_sem], by simp [go_sem], fun j x hx => (hb0.cell (p := ⟨g, j, none⟩) hg).trans (hcs j x hx), fun j x hx => (hb0.cell (p := ⟨M, j, none⟩) hM).trans (hcp j x hx)⟩
  refine wpIn_rangeFunc_ownG rfl (by omega) (gf := 57) (lb := #[.pointer (some ⟨w.heap.size + 1 + 1, 0, none⟩)]) rfl trivial (enters_of Try.func57 (by kernel_rfl) rfl)
    (pend_stops Fence.wide _ trivial rfl (by omega) (w.heap.size + 1 + 1) w.heap.size g M N c c' sy ps hN hsl hpl hg hM hok _ (by simp; omega) (by simp) hA) kpB_t (kpB_b (by simp; omega) (by simp)) (Below.refl _ _) (fun _ => rfl)
    (fun pre W => (pre = [] ∧ W.cell? ⟨w.heap.size + 1, 0, none⟩ = some (.bool false) ∧ W.frozen? ⟨w.heap.size + 1, 0, none⟩ = false) ∧ Below w.heap.size w W)
    (fun c pre W => (c = .ret ∧ W.cell? ⟨w.heap.size + 1, 0, none⟩ = some (.bool false)) ∧ Below w.heap.size w W)
    (OwnFrom.and (Own.from (fun s A B row hs hg hr => ⟨hs.1, cell_kept hs.2.1 hg hr, (frozen_kept hs.2.1 hg hr).trans hs.2.2⟩) _) (ownFrom_below (Nat.le_refl _) (by simp; omega)))
    (fun c => OwnFrom.and (Own.from (fun s A B row hs hg hr => ⟨hs.1, cell_kept hs.2 hg hr⟩) _) (ownFrom_below (Nat.le_refl _) (by simp; omega)))
    ⟨⟨rfl, by simp [go_sem], by simp [go_sem]⟩, hb0⟩
    (fun x => { tmps := #[.agg #[.slice (some ⟨g, 0, none⟩) N c, .slice (some ⟨M, 0, none⟩) N c'], .pointer (some ⟨w.heap.size, 0, none⟩), .pointer (some ⟨w.heap.size + 1, 0, none⟩), .agg #[.slice (some ⟨g, 0, none⟩) N c, .slice (some ⟨M, 0, none⟩) N c'], .func (.func 57) #[] #[.pointer (some ⟨w.heap.size + 1 + 1, 0, none⟩)], .int .i64 x.1.1, .int .u8 x.1.2], defers := [] }) ?assign ?body ?done ?stop
  case assign =>
    intro l x W K hK
    gi_wp2
    simpa using hK
  case body =>
    rintro l pre x W ⟨⟨hp, hcr, hfr⟩, hB⟩ _
    gi_wp2
    exact ⟨(KeepsOthers.setCell _ _ _).from _, ⟨rfl, World.cell?_setCell_same' _ _ _ (by rw [hcr]; rfl)⟩, hB.setCell (p := ⟨w.heap.size + 1, 0, none⟩) (by simp) _⟩
  case done =>
    rintro D ys W hD rfl ⟨⟨hp, hcr, hfr⟩, hB⟩ hK
    have hr : (pend sy ps N).isEmpty = true := by rw [hp]; rfl
    have Hr := Lib.hid hr
    clear hp hr
    gi_wp2
    have hK' := (KeepsOthers.setCell W ⟨w.heap.size + 1, 0, none⟩ (.bool true)).same D _ hK rfl
    refine ⟨by simp, .inl ⟨_, _, rfl, run_takeDeferred hK', ?_⟩⟩
    have hc5 := cell_kept (World.cell?_setCell_same' W ⟨w.heap.size + 1, 0, none⟩ (.bool true) (by rw [hcr]; rfl)) (grownBy_putObj' _ D (.deferred none)) (fun r e => by cases e; exact ⟨_, hK', rfl⟩)
    refine ⟨.bool true, ?_, by rw [Hr.out], (hB.setCell (p := ⟨w.heap.size + 1, 0, none⟩) (by simp) _).trans (belowK_b (w := w) (Nat.le_refl _) _ D _ _ (by simp at hD; omega) hK' rfl rfl)⟩
    simp [results, Try.f38, go_sem, hc5]
  case stop =>
    rintro D c pre W hD ⟨k, hk, rfl, hne⟩ ⟨⟨rfl, hcr⟩, hB⟩ hK
    have hr : (pend sy ps N).isEmpty = false := by
      obtain ⟨m, rfl⟩ : ∃ m, N = k + m := ⟨N - k, by omega⟩
      obtain ⟨r, hr⟩ := pend_prefix sy ps k m
      rw [← hr]
      cases h : pend sy ps k with
      | nil => exact absurd h hne
      | cons a l => rfl
    have Hr := Lib.hid hr
    clear hr hne
    gi_wp2
    refine ⟨by simp, .inl ⟨_, _, rfl, run_takeDeferred hK, ?_⟩⟩
    have hc5 := cell_kept hcr (grownBy_putObj' _ D (.deferred none)) (fun r e => by cases e; exact ⟨_, hK, rfl⟩)
    refine ⟨.bool false, ?_, by rw [Hr.out], hB.trans (belowK_b (w := w) (Nat.le_refl _) W D _ _ (by simp at hD; omega) hK rfl rfl)⟩
    simp [results, Try.f38, go_sem, hc5]
end Go.Proofs.Ytnclhgaikglbgaa
