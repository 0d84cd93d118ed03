/- The law's own functions on rows of rows: they compare, mark, and find the marks. -/
import Derived.Test.YtglbmmgancecnaaDoorLeaf
namespace Go.Proofs.YtglbmmgancecnaaDoor
open Go.RowKit

def Bd1 {α : Type} (xs : List α) : Prop := xs.length ≤ 1048576
def Bd2 {α : Type} (xs : List (List α)) : Prop := xs.length ≤ 1048576 ∧ ∀ x ∈ xs, Bd1 x
def Bd3 {α : Type} (xs : List (List (List α))) : Prop := xs.length ≤ 1048576 ∧ ∀ x ∈ xs, Bd2 x

section
variable {α : Type} {base : Nat} {e : TypeId} {E : EP α} {w : World} {v : Value} {xs : List α} {bs : List Nat}
theorem ManyE.slice (h : ManyE base e E w v xs bs) : ∃ A c, v = .slice A xs.length c := by
  obtain ⟨vs, bss, hr, _⟩ := h
  rcases hr.2 with ⟨rfl, h0⟩ | ⟨g, cap, cur, rfl, _⟩
  · exact ⟨none, 0, by rw [h0]⟩
  · exact ⟨_, _, rfl⟩
end
abbrev Ints2E (base : Nat) : EP (List (List Int)) := ManyE base 43 (IntsE base)
abbrev Ints3E (base : Nat) : EP (List (List (List Int))) := ManyE base 25 (Ints2E base)
abbrev Push2E (base : Nat) : EP (List (List (Int × Int))) := ManyE base 46 (PushE base)
theorem ints_ok (base : Nat) : EP.Ok base (IntsE base) := RowE.ok _ _ _ _
theorem bools_ok (base : Nat) : EP.Ok base (BoolsE base) := RowE.ok _ _ _ _
theorem push_ok (base : Nat) : EP.Ok base (PushE base) := RowE.ok _ _ _ _
theorem ints2_ok (base : Nat) : EP.Ok base (Ints2E base) := ManyE.ok _ (ints_ok base)
theorem ints3_ok (base : Nat) : EP.Ok base (Ints3E base) := ManyE.ok _ (ints2_ok base)
theorem push2_ok (base : Nat) : EP.Ok base (Push2E base) := ManyE.ok _ (push_ok base)
def lenI (x : List Int) : Nat := x.length
def lenP (x : List (Int × Int)) : Nat := 2 * x.length
abbrev mkI2 := mkL mkI lenI
abbrev mkI3 := mkL mkI2 (szL lenI)
abbrev mkP2 := mkL mkP lenP


set_option maxHeartbeats 1600000 in
set_option maxRecDepth 100000 in
theorem eq_ints2 {base base' : Nat} {v v' : Value} {xs : List (List Int)} {bs bs' : List Nat} (w : World) (hn : Bd2 xs) (ha : Ints2E base w v xs bs) (hb : Ints2E base' w v' xs bs') :
    Calls Tryd.prog 26 #[v, v'] w (SeenPost (.bool true) w) := by
  obtain ⟨A, ca, rfl⟩ := ha.slice
  obtain ⟨B, cb, rfl⟩ := hb.slice
  obtain ⟨hn1, hn2⟩ := hn
  obtain ⟨n, hn'⟩ : ∃ n, n = xs.length := ⟨_, rfl⟩
  have Hn := Lib.hid hn'
  have Hn2 := Lib.hid hn2
  rw [← hn'] at ha hb hn1 ⊢
  clear hn' hn2
  go_enter Tryd.func26, Tryd.ntmps26
  go_wp2
  go_loopw [5] (fun i wr => ∃ k : Nat, k ≤ n ∧ i = .int .i64 k ∧ Below w.heap.size w wr) (fun i _ => n - (intOf i).toNat)
  case atStart => exact ⟨0, Nat.zero_le _, rfl, Below.refl _ _⟩
  case round =>
    obtain ⟨k, hk, rfl, hB⟩ := hrel
    by_cases hlt : k < n
    · have hkx : k < xs.length := by rw [← Hn.out]; exact hlt
      obtain ⟨x, hx⟩ : ∃ x, xs[k]? = some x := ⟨_, List.getElem?_eq_getElem hkx⟩
      obtain ⟨g, c, u, cs, hv, hc, hE, hg, _⟩ := ha.at_ (ints_ok _) hx
      obtain ⟨g', c', u', cs', hv', hc', hE', hg', _⟩ := hb.at_ (ints_ok _) hx
      simp only [Value.slice.injEq] at hv hv'
      obtain ⟨rfl, h9, rfl⟩ := hv
      clear h9
      obtain ⟨rfl, h9, rfl⟩ := hv'
      clear h9
      have hc1 := (hB.cell (p := ⟨g, k, none⟩) hg).trans hc
      have hc2 := (hB.cell (p := ⟨g', k, none⟩) hg').trans hc'
      have hs := hB.size
      have hq := fun (W : World) (hw : Below w.heap.size w W) => eq_ints W (Hn2.out x (List.mem_of_getElem? hx)) ((ints_ok _).later hE hw) ((ints_ok _).later hE' hw)
      have Hq := Lib.hid hq
      have hmx : Tryd.prog.follows .mixedOrders = true := by kernel_rfl
      clear hkx hx hc hc' hq hE hE'
      go_wp2
      go_region_with (go_at_call 38; refine (Hq.out _ (by first | exact hB.drew | exact hB)).mono ?_; rintro e w2 ⟨rfl, hb2⟩)
      all_goals
        go_wp2
        go_roundw
        case rel => exact ⟨k + 1, by omega, by go_num, by first | exact hB.drew.trans (hb2.mono hs) | exact hB.trans (hb2.mono hs)⟩
        case measure => simp [intOf]; omega
    · go_wp2
      go_ret
      exact ⟨rfl, hB⟩

set_option maxHeartbeats 1600000 in
set_option maxRecDepth 100000 in
theorem eq_pushes2 {base base' : Nat} {v v' : Value} {xs : List (List (Int × Int))} {bs bs' : List Nat} (w : World) (hn : Bd2 xs) (ha : Push2E base w v xs bs) (hb : Push2E base' w v' xs bs') :
    Calls Tryd.prog 24 #[v, v'] w (SeenPost (.bool true) w) := by
  obtain ⟨A, ca, rfl⟩ := ha.slice
  obtain ⟨B, cb, rfl⟩ := hb.slice
  obtain ⟨hn1, hn2⟩ := hn
  obtain ⟨n, hn'⟩ : ∃ n, n = xs.length := ⟨_, rfl⟩
  have Hn := Lib.hid hn'
  have Hn2 := Lib.hid hn2
  rw [← hn'] at ha hb hn1 ⊢
  clear hn' hn2
  go_enter Tryd.func24, Tryd.ntmps24
  go_wp2
  go_loopw [5] (fun i wr => ∃ k : Nat, k ≤ n ∧ i = .int .i64 k ∧ Below w.heap.size w wr) (fun i _ => n - (intOf i).toNat)
  case atStart => exact ⟨0, Nat.zero_le _, rfl, Below.refl _ _⟩
  case round =>
    obtain ⟨k, hk, rfl, hB⟩ := hrel
    by_cases hlt : k < n
    · have hkx : k < xs.length := by rw [← Hn.out]; exact hlt
      obtain ⟨x, hx⟩ : ∃ x, xs[k]? = some x := ⟨_, List.getElem?_eq_getElem hkx⟩
      obtain ⟨g, c, u, cs, hv, hc, hE, hg, _⟩ := ha.at_ (push_ok _) hx
      obtain ⟨g', c', u', cs', hv', hc', hE', hg', _⟩ := hb.at_ (push_ok _) hx
      simp only [Value.slice.injEq] at hv hv'
      obtain ⟨rfl, h9, rfl⟩ := hv
      clear h9
      obtain ⟨rfl, h9, rfl⟩ := hv'
      clear h9
      have hc1 := (hB.cell (p := ⟨g, k, none⟩) hg).trans hc
      have hc2 := (hB.cell (p := ⟨g', k, none⟩) hg').trans hc'
      have hs := hB.size
      have hq := fun (W : World) (hw : Below w.heap.size w W) => eq_pushes W (Hn2.out x (List.mem_of_getElem? hx)) ((push_ok _).later hE hw) ((push_ok _).later hE' hw)
      have Hq := Lib.hid hq
      have hmx : Tryd.prog.follows .mixedOrders = true := by kernel_rfl
      clear hkx hx hc hc' hq hE hE'
      go_wp2
      go_region_with (go_at_call 37; refine (Hq.out _ (by first | exact hB.drew | exact hB)).mono ?_; rintro e w2 ⟨rfl, hb2⟩)
      all_goals
        go_wp2
        go_roundw
        case rel => exact ⟨k + 1, by omega, by go_num, by first | exact hB.drew.trans (hb2.mono hs) | exact hB.trans (hb2.mono hs)⟩
        case measure => simp [intOf]; omega
    · go_wp2
      go_ret
      exact ⟨rfl, hB⟩

set_option maxHeartbeats 1600000 in
set_option maxRecDepth 100000 in
theorem eq_ints3 {base base' : Nat} {v v' : Value} {xs : List (List (List Int))} {bs bs' : List Nat} (w : World) (hn : Bd3 xs) (ha : Ints3E base w v xs bs) (hb : Ints3E base' w v' xs bs') :
    Calls Tryd.prog 25 #[v, v'] w (SeenPost (.bool true) w) := by
  obtain ⟨A, ca, rfl⟩ := ha.slice
  obtain ⟨B, cb, rfl⟩ := hb.slice
  obtain ⟨hn1, hn2⟩ := hn
  obtain ⟨n, hn'⟩ : ∃ n, n = xs.length := ⟨_, rfl⟩
  have Hn := Lib.hid hn'
  have Hn2 := Lib.hid hn2
  rw [← hn'] at ha hb hn1 ⊢
  clear hn' hn2
  go_enter Tryd.func25, Tryd.ntmps25
  go_wp2
  go_loopw [5] (fun i wr => ∃ k : Nat, k ≤ n ∧ i = .int .i64 k ∧ Below w.heap.size w wr) (fun i _ => n - (intOf i).toNat)
  case atStart => exact ⟨0, Nat.zero_le _, rfl, Below.refl _ _⟩
  case round =>
    obtain ⟨k, hk, rfl, hB⟩ := hrel
    by_cases hlt : k < n
    · have hkx : k < xs.length := by rw [← Hn.out]; exact hlt
      obtain ⟨x, hx⟩ : ∃ x, xs[k]? = some x := ⟨_, List.getElem?_eq_getElem hkx⟩
      obtain ⟨g, c, u, cs, hv, hc, hE, hg, _⟩ := ha.at_ (ints2_ok _) hx
      obtain ⟨g', c', u', cs', hv', hc', hE', hg', _⟩ := hb.at_ (ints2_ok _) hx
      simp only [Value.slice.injEq] at hv hv'
      obtain ⟨rfl, h9, rfl⟩ := hv
      clear h9
      obtain ⟨rfl, h9, rfl⟩ := hv'
      clear h9
      have hc1 := (hB.cell (p := ⟨g, k, none⟩) hg).trans hc
      have hc2 := (hB.cell (p := ⟨g', k, none⟩) hg').trans hc'
      have hs := hB.size
      have hq := fun (W : World) (hw : Below w.heap.size w W) => eq_ints2 W (Hn2.out x (List.mem_of_getElem? hx)) ((ints2_ok _).later hE hw) ((ints2_ok _).later hE' hw)
      have Hq := Lib.hid hq
      have hmx : Tryd.prog.follows .mixedOrders = true := by kernel_rfl
      clear hkx hx hc hc' hq hE hE'
      go_wp2
      go_region_with (go_at_call 26; refine (Hq.out _ (by first | exact hB.drew | exact hB)).mono ?_; rintro e w2 ⟨rfl, hb2⟩)
      all_goals
        go_wp2
        go_roundw
        case rel => exact ⟨k + 1, by omega, by go_num, by first | exact hB.drew.trans (hb2.mono hs) | exact hB.trans (hb2.mono hs)⟩
        case measure => simp [intOf]; omega
    · go_wp2
      go_ret
      exact ⟨rfl, hB⟩

end Go.Proofs.YtglbmmgancecnaaDoor
