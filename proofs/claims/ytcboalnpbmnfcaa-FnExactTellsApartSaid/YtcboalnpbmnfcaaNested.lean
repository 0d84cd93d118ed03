/- readNested: a text of at most 60 symbols is read; any other text is refused, its panic being recovered. -/
import Derived.Test.YtcboalnpbmnfcaaRead
namespace Go.Proofs.Ytcboalnpbmnfcaa
open Go.RowKit

/-- The symbols' numbers, and the kinds, of a text. -/
def symL (l : List UInt8) : List Int := l.map fun b => symNo b.toNat
def ksOf (l : List UInt8) : List Nat := l.map fun b => kindS (symNo b.toNat)
def AllSym (l : List UInt8) : Prop := ∀ b ∈ l, 0 ≤ symNo b.toNat

theorem symL_len (l : List UInt8) : (symL l).length = l.length := by simp [symL]
theorem symL_snoc (l : List UInt8) (b : UInt8) : symL (l ++ [b]) = symL l ++ [symNo b.toNat] := by simp [symL]
theorem symL_ok {l : List UInt8} (h : AllSym l) : ∀ x ∈ symL l, 0 ≤ x ∧ x ≤ 5 := by
  intro x hx
  simp only [symL, List.mem_map] at hx
  obtain ⟨b, hb, rfl⟩ := hx
  exact ⟨h b hb, symNo_le _⟩
theorem symL_kinds (l : List UInt8) : (symL l).map kindS = ksOf l := by simp [symL, ksOf]

theorem info_sym : (Try.prog.info? 162).map (fun i => (i.zero, i.size, i.bytes)) = some (some (.int .u8 0), 1, 1) := by kernel_rfl

/-- What holds at the head of each round of the reader: B is the heap's size when the call began. -/
structure NRel (w : World) (B n : Nat) (l : List UInt8) (k : Nat) (wr : World) : Prop where
  rowS : wr.ownsRow (B + 1 + 1) 162 1 (.slice (some ⟨B + 1 + 1, 0, none⟩) k n) k (symsV (symL (l.take k)))
  c0 : wr.cell? ⟨B, 0, none⟩ = some (.slice none 0 0)
  c1 : wr.cell? ⟨B, 1, none⟩ = some (.slice none 0 0)
  c2 : wr.cell? ⟨B + 1, 0, none⟩ = some (.bool false)
  f0 : wr.frozen? ⟨B, 0, none⟩ = false
  f1 : wr.frozen? ⟨B, 1, none⟩ = false
  f2 : wr.frozen? ⟨B + 1, 0, none⟩ = false
  below : Below B w wr
  size : B + 1 + 1 < wr.heap.size

theorem NRel.next {w wr w2 : World} {B n : Nat} {l : List UInt8} {k : Nat} {o : Obj} {b : UInt8} (h : NRel w B n l k wr) (hk : l[k]? = some b)
    (hown : w2.ownsRow (B + 1 + 1) 162 1 (.slice (some ⟨B + 1 + 1, 0, none⟩) (k + 1) n) (k + 1) (symsV (symL (l.take k)) ++ [.int .u8 (symNo b.toNat)]))
    (hg : (wr.alloc o).grownBy w2 (some (B + 1 + 1))) : NRel w B n l (k + 1) w2 := by
  have hs := h.size
  have cell (b j : Nat) (hb : b < B + 2) : w2.cell? ⟨b, j, none⟩ = wr.cell? ⟨b, j, none⟩ := by
    refine World.cell?_of_block ?_
    rw [hg.block b (by simp; omega) (by simp; omega)]
    exact Below.heap_alloc _ _ _ (by omega)
  have frz (b j : Nat) (hb : b < B + 2) : w2.frozen? ⟨b, j, none⟩ = wr.frozen? ⟨b, j, none⟩ := by
    refine World.frozen?_of_block ?_
    rw [hg.block b (by simp; omega) (by simp; omega)]
    exact Below.heap_alloc _ _ _ (by omega)
  refine ⟨?_, (cell _ _ (by omega)).trans h.c0, (cell _ _ (by omega)).trans h.c1, (cell _ _ (by omega)).trans h.c2, (frz _ _ (by omega)).trans h.f0, (frz _ _ (by omega)).trans h.f1,
    (frz _ _ (by omega)).trans h.f2, (h.below.alloc (by omega) o).grown hg (by simp; omega) (fun j e => by simp at e; omega), ?_⟩
  · rw [List.take_add_one, hk, Option.toList_some, symL_snoc]
    simpa [symsV] using hown
  · have := hg.size
    simp at this
    omega

theorem NRel.behind {w wr w1 : World} {B n : Nat} {l : List UInt8} {k : Nat} (h : NRel w B n l k wr) (hb : Below wr.heap.size wr w1) :
    w1.cell? ⟨B, 0, none⟩ = some (.slice none 0 0) ∧ w1.cell? ⟨B, 1, none⟩ = some (.slice none 0 0) ∧ w1.cell? ⟨B + 1, 0, none⟩ = some (.bool false) ∧
      w1.frozen? ⟨B, 0, none⟩ = false ∧ w1.frozen? ⟨B, 1, none⟩ = false ∧ w1.frozen? ⟨B + 1, 0, none⟩ = false := by
  have hs := h.size
  exact ⟨(hb.cell (p := ⟨B, 0, none⟩) (by simp; omega)).trans h.c0, (hb.cell (p := ⟨B, 1, none⟩) (by simp; omega)).trans h.c1, (hb.cell (p := ⟨B + 1, 0, none⟩) (by simp; omega)).trans h.c2,
    (hb.frozen (p := ⟨B, 0, none⟩) (by simp; omega)).trans h.f0, (hb.frozen (p := ⟨B, 1, none⟩) (by simp; omega)).trans h.f1, (hb.frozen (p := ⟨B + 1, 0, none⟩) (by simp; omega)).trans h.f2⟩

def ReadYes (n : Nat) (l : List UInt8) (w : World) (e : Ending) (w' : World) : Prop :=
  ∃ M, e = .returned (.tuple #[.agg #[.slice (some ⟨w.heap.size + 1 + 1, 0, none⟩) n n, .slice (some ⟨M, 0, none⟩) n n], .bool true]) ∧
    w'.ownsRow w.heap.size 162 1 (.slice (some ⟨w.heap.size + 1 + 1, 0, none⟩) n n) n (symsV (symL l)) ∧
    w'.ownsRow w.heap.size 2 1 (.slice (some ⟨M, 0, none⟩) n n) n (numsV (prts (ksOf l))) ∧ Below w.heap.size w w'

def ReadNo (w : World) (e : Ending) (w' : World) : Prop :=
  e = .returned (.tuple #[.agg #[.slice none 0 0, .slice none 0 0], .bool false]) ∧ Below w.heap.size w w'

set_option maxHeartbeats 800000 in
set_option maxRecDepth 100000 in
theorem impl_read_long (s : ByteArray) (w : World) (h : 60 < s.size) (hs : s.size ≤ 1048576) :
    Calls Try.prog 58 #[.string s] w (ReadNo w) := by
  go_enter_defers Try.func58, Try.ntmps58
  go_wp2
  simp [bodyPostD, Leaves, results, Try.results58, go_sem]
  exact ⟨rfl, ((Below.refl _ _).alloc (Nat.le_refl _) _).alloc (by simp) _⟩

theorem NRel.start (w : World) (l : List UInt8) (hl : l.length ≤ 60) :
    NRel w w.heap.size l.length l 0 (((w.alloc (.cells #[.slice none 0 0, .slice none 0 0] 88)).alloc (.cells #[.bool false] 4)).alloc (.cells (madeCells #[.int .u8 0] l.length) 162)) := by
  refine ⟨?_, by simp [go_sem], by simp [go_sem], by simp [go_sem], by simp [go_sem], by simp [go_sem], by simp [go_sem], (((Below.refl _ _).alloc (Nat.le_refl _) _).alloc (by simp) _).alloc (by simp; omega) _, by simp⟩
  have h := World.ownsRow_made (base := w.heap.size + 1 + 1) (e := 162) (size := 1) ((w.alloc (.cells #[.slice none 0 0, .slice none 0 0] 88)).alloc (.cells #[.bool false] 4)) (madeCells #[.int .u8 0] l.length) l.length (by simp) (by unfold maxLen; omega) (by simp [size_madeCells])
  simpa [symsV, symL] using h

set_option maxHeartbeats 1600000 in
set_option maxRecDepth 100000 in
theorem impl_read_yes (s : ByteArray) (w : World) (h : s.size ≤ 60) (hall : AllSym s.data.toList) :
    Calls Try.prog 58 #[.string s] w (ReadYes s.size s.data.toList w) := by
  have hmf : ∀ (fn : Fn) (first cap : Array Value) (w : World), (Instr.makeFunc fn first cap).run Try.prog w = .ok (.func fn first cap) w := fun _ _ _ _ => rfl
  obtain ⟨i0, hi, hz0, hz1, hz2⟩ := info_parts info_sym
  have hmk : ∀ W : World, (Instr.makeSlice 86 (.int .i64 0) (.int .i64 (s.size : Int))).run Try.prog W = .ok (.slice (some ⟨W.heap.size, 0, none⟩) 0 s.size) (W.alloc (.cells (madeCells #[.int .u8 0] s.size) 162)) := by
    intro W
    have := run_make (P := Try.prog) W 86 162 i0 (.int .u8 0) Try.underlying86 hi hz0 .i64 .i64 0 (s.size : Int) (by omega) (by omega) (by rw [hz2]; omega) (by omega)
    rw [hz1] at this
    simpa [Value.cells] using this
  obtain ⟨l, hl⟩ : ∃ l, l = s.data.toList := ⟨_, rfl⟩
  have hlen : l.length = s.size := by rw [hl]; simp
  rw [← hl] at hall ⊢
  have Hl := Lib.hid hl
  have Hlen := Lib.hid hlen
  have Hall := Lib.hid hall
  clear hl hlen hall
  go_enter_defers Try.func58, Try.ntmps58
  go_wp2
  go_loopw [4, 16] (fun v i wr => ∃ k : Nat, k ≤ s.size ∧ i = .int .i64 k ∧ v = .slice (some ⟨w.heap.size + 1 + 1, 0, none⟩) k s.size ∧ NRel w w.heap.size s.size l k wr) (fun _ i _ => s.size - (intOf i).toNat)
  case atStart => exact ⟨0, Nat.zero_le _, rfl, rfl, by rw [← Hlen.out]; exact NRel.start w l (by rw [Hlen.out]; exact h)⟩
  case round =>
    obtain ⟨k, hk, rfl, rfl, hR⟩ := hrel
    by_cases hlt : k < s.size
    · have hb : Hid (l[k]? = some s[k]) := by
        show _ = _
        rw [Hl.out, List.getElem?_eq_getElem (by simpa using hlt)]
        rfl
      have hsy : 0 ≤ symNo (s[k].toNat : Int) := Hall.out _ (List.mem_of_getElem? hb.out)
      go_wp2_with (first
        | (go_at_call 124; refine (impl_symbolOf _ _ hsy).mono ?_; rintro e w' ⟨rfl, rfl⟩)
        | (at_builtin; refine wpList_append_fits _ rfl _ _ 86 rfl (w.heap.size + 1 + 1) 162 i0 1 Try.underlying86 hi hz1 (w.heap.size + 1 + 1) k s.size (symsV (symL (l.take k))) rfl ?c0 ⟨wr.heap.size, 0, none⟩ 1 1 [.int .u8 (symNo (s[k].toNat : Int))] rfl rfl ?c1 ?c2 ?c3 ?_))
      case c0 => exact hR.rowS.alloc _
      case c1 => exact cell_one_new _ _ _
      case c2 => simp [Value.oneCell']
      case c3 => omega
      intro w1 hown hg
      have hR' := hR.next hb.out hown hg
      clear hown hg
      go_wp2
      go_roundw
      case rel => exact ⟨k + 1, by omega, by go_num, rfl, hR'⟩
      case measure => simp [intOf]; omega
    · have e : k = s.size := by omega
      subst e
      have hrow := hR.rowS
      rw [List.take_of_length_le (by rw [Hlen.out]; exact Nat.le_refl _)] at hrow
      have hm := impl_match (w.heap.size + 1 + 1) s.size s.size (w.heap.size + 1 + 1) (symL l) wr h (by rw [symL_len, Hlen.out]) (symL_ok Hall.out) hrow
      rw [symL_kinds] at hm
      have Hm := Lib.hid hm
      clear hm hrow
      go_wp2_with (go_at_call 125; refine Hm.out.mono ?_; rintro e w1 ⟨rfl, hrP, hb1⟩; obtain ⟨g0, g1, g2, e0, e1, e2⟩ := hR.behind hb1)
      refine leaves_cons (f := 123) (args := #[.pointer (some ⟨w.heap.size, 0, none⟩), .pointer (some ⟨w.heap.size + 1, 0, none⟩)]) (by simp) (by simp [go_sem]) ?_
      refine (closure_idle _ _ _).mono ?_
      rintro e u' w2 ⟨rfl, rfl, rfl⟩
      simp [Leaves, settle, results, Try.results58, go_sem, g0, g1, g2]
      have hs := hR.size
      unfold ReadYes
      have r1 := row_below hR.rowS hb1
      rw [List.take_of_length_le (by rw [Hlen.out]; exact Nat.le_refl _)] at r1
      refine ⟨_, rfl, ?_, ?_, ?_⟩
      · exact row_base (ownsRow_setCell_below (ownsRow_setCell_below (ownsRow_setCell_below r1 (by simp; omega) _) (by simp; omega) _) (by simp) _) (by omega)
      · exact row_base (ownsRow_setCell_below (ownsRow_setCell_below (ownsRow_setCell_below hrP (by simp; omega) _) (by simp; omega) _) (by simp; omega) _) (by omega)
      · exact (((hR.below.trans (hb1.mono (by omega))).setCell (p := ⟨w.heap.size, 0, none⟩) (Nat.le_refl _) _).setCell (p := ⟨w.heap.size, 1, none⟩) (Nat.le_refl _) _).setCell (p := ⟨w.heap.size + 1, 0, none⟩) (by simp) _

set_option maxHeartbeats 1600000 in
set_option maxRecDepth 100000 in
theorem impl_read_bad (s : ByteArray) (w : World) (h : s.size ≤ 60) (j : Nat) (b : UInt8) (hj : s.data.toList[j]? = some b) (hbad : symNo b.toNat < 0) (hgood : AllSym (s.data.toList.take j)) :
    Calls Try.prog 58 #[.string s] w (ReadNo w) := by
  have hmf : ∀ (fn : Fn) (first cap : Array Value) (w : World), (Instr.makeFunc fn first cap).run Try.prog w = .ok (.func fn first cap) w := fun _ _ _ _ => rfl
  obtain ⟨i0, hi, hz0, hz1, hz2⟩ := info_parts info_sym
  have hmk : ∀ W : World, (Instr.makeSlice 86 (.int .i64 0) (.int .i64 (s.size : Int))).run Try.prog W = .ok (.slice (some ⟨W.heap.size, 0, none⟩) 0 s.size) (W.alloc (.cells (madeCells #[.int .u8 0] s.size) 162)) := by
    intro W
    have := run_make (P := Try.prog) W 86 162 i0 (.int .u8 0) Try.underlying86 hi hz0 .i64 .i64 0 (s.size : Int) (by omega) (by omega) (by rw [hz2]; omega) (by omega)
    rw [hz1] at this
    simpa [Value.cells] using this
  obtain ⟨l, hl⟩ : ∃ l, l = s.data.toList := ⟨_, rfl⟩
  have hlen : l.length = s.size := by rw [hl]; simp
  rw [← hl] at hj hgood
  have hjn : j < s.size := by rw [← hlen]; exact (List.getElem?_eq_some_iff.1 hj).1
  have Hl := Lib.hid hl
  have Hlen := Lib.hid hlen
  have Hgood := Lib.hid hgood
  have Hj := Lib.hid hj
  clear hl hlen hgood hj
  go_enter_defers Try.func58, Try.ntmps58
  go_wp2
  go_loopw [4, 16] (fun v i wr => ∃ k : Nat, k ≤ j ∧ i = .int .i64 k ∧ v = .slice (some ⟨w.heap.size + 1 + 1, 0, none⟩) k s.size ∧ NRel w w.heap.size s.size l k wr) (fun _ i _ => s.size - (intOf i).toNat)
  case atStart => exact ⟨0, Nat.zero_le _, rfl, rfl, by rw [← Hlen.out]; exact NRel.start w l (by rw [Hlen.out]; exact h)⟩
  case round =>
    obtain ⟨k, hk, rfl, rfl, hR⟩ := hrel
    have hb : k < s.size → Hid (l[k]? = some (s[k]'(by omega))) := fun hks => by
      show _ = _
      rw [Hl.out, List.getElem?_eq_getElem (by simpa using hks)]
      rfl
    by_cases hlt : k < j
    · have hks : k < s.size := by omega
      have hb := hb hks
      have hsy : 0 ≤ symNo (s[k].toNat : Int) := Hgood.out _ (List.mem_of_getElem? (by rw [List.getElem?_take_of_lt hlt]; exact hb.out))
      go_wp2_with (first
        | (go_at_call 124; refine (impl_symbolOf _ _ hsy).mono ?_; rintro e w' ⟨rfl, rfl⟩)
        | (at_builtin; refine wpList_append_fits _ rfl _ _ 86 rfl (w.heap.size + 1 + 1) 162 i0 1 Try.underlying86 hi hz1 (w.heap.size + 1 + 1) k s.size (symsV (symL (l.take k))) rfl ?c0 ⟨wr.heap.size, 0, none⟩ 1 1 [.int .u8 (symNo (s[k].toNat : Int))] rfl rfl ?c1 ?c2 ?c3 ?_))
      case c0 => exact hR.rowS.alloc _
      case c1 => exact cell_one_new _ _ _
      case c2 => simp [Value.oneCell']
      case c3 => omega
      intro w1 hown hg
      have hR' := hR.next hb.out hown hg
      clear hown hg
      go_wp2
      go_roundw
      case rel => exact ⟨k + 1, by omega, by go_num, rfl, hR'⟩
      case measure => simp [intOf]; omega
    · have e : k = j := by omega
      subst e
      have hb := hb hjn
      have hx : s[k] = b := by
        have e1 := hb.out
        rw [Hj.out] at e1
        exact (Option.some.inj e1).symm
      have hsy : symNo (s[k].toNat : Int) < 0 := by rw [hx]; exact hbad
      clear hx hb
      have g0 := hR.c0
      have g1 := hR.c1
      have g2 := hR.c2
      have e0 := hR.f0
      have e1 := hR.f1
      have e2 := hR.f2
      go_wp2_with (go_at_call 124; refine (impl_symbolOf_none _ _ hsy).mono ?_; rintro e w' ⟨rfl, rfl⟩)
      refine leaves_cons (f := 123) (args := #[.pointer (some ⟨w.heap.size, 0, none⟩), .pointer (some ⟨w.heap.size + 1, 0, none⟩)]) (by simp) (by simp [go_sem]) ?_
      refine (closure_panicking w.heap.size (w.heap.size + 1) _ _ _ _ _ [] _ (by omega) g0 g1 g2 e0 e1 e2).mono ?_
      rintro e u' w2 ⟨rfl, rfl, rfl⟩
      simp [Leaves, settle, results, Try.results58, go_sem, g0, g1, g2]
      exact ⟨rfl, ((hR.below.setCell (p := ⟨w.heap.size, 0, none⟩) (Nat.le_refl _) _).setCell (p := ⟨w.heap.size, 1, none⟩) (Nat.le_refl _) _).setCell (p := ⟨w.heap.size + 1, 0, none⟩) (by simp) _⟩
end Go.Proofs.Ytcboalnpbmnfcaa
