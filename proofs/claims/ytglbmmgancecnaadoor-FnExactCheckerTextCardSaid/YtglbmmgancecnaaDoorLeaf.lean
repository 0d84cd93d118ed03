/- The law's own functions on rows of plain cells: they compare, mark, and find the marks. -/
import Derived.Test.YtglbmmgancecnaaDoorMark
import Derived.Test.YtglbmmgancecnaaDoorRows
import Derived.ProofKit
import Derived.OpenShut
import Derived.BigQuiet
import Derived.Deep.QuietTactic
import Derived.Deep.RegionWith
namespace Go.Proofs.YtglbmmgancecnaaDoor
open Go.RowKit

section
variable {α : Type} {base : Nat} {e : TypeId} {size : Nat} {enc : α → List Value} {w : World} {v : Value} {xs : List α} {bs : List Nat}
theorem RowE.slice (h : RowE base e size enc w v xs bs) : ∃ A c, v = .slice A xs.length c := by
  rcases h.1.2 with ⟨rfl, h0⟩ | ⟨g, cap, cur, rfl, _⟩
  · exact ⟨none, 0, by rw [h0]⟩
  · exact ⟨_, _, rfl⟩
theorem RowE.head {A : Option Addr} {n c : Nat} (h : RowE base e size enc w (.slice A n c) xs bs) {j : Nat} (hj : j < xs.length) : ∃ g, A = some ⟨g, 0, none⟩ ∧ g < w.heap.size ∧ bs = [g] := by
  obtain ⟨h, rfl⟩ := h
  rcases h.2 with ⟨_, h0⟩ | ⟨g, cap, cur, hv, _⟩
  · omega
  · simp only [Value.slice.injEq] at hv
    obtain ⟨rfl, _, rfl⟩ := hv
    exact ⟨g, rfl, (h.lt g rfl).2, rfl⟩
theorem RowE.len_ {A : Option Addr} {n c : Nat} (h : RowE base e size enc w (.slice A n c) xs bs) : n = xs.length := by
  rcases h.1.2 with ⟨hv, h0⟩ | ⟨g, cap, cur, hv, _⟩
  · simp only [Value.slice.injEq] at hv
    omega
  · simp only [Value.slice.injEq] at hv
    exact hv.2.1
theorem RowE.cell {g n c : Nat} (h : RowE base e size enc w (.slice (some ⟨g, 0, none⟩) n c) xs bs) (hs : ∀ x, (enc x).length = size) {j i : Nat} {x : α} {u : Value} (hx : xs[j]? = some x) (hu : (enc x)[i]? = some u) : w.cell? ⟨g, j * size + i, none⟩ = some u := by
  obtain rfl := h.len_
  have hi : i < size := by rw [← hs x]; exact (List.getElem?_eq_some_iff.1 hu).1
  have hj := (List.getElem?_eq_some_iff.1 hx).1
  have h1 : j * size + i < xs.length * size := by
    have := Nat.mul_le_mul_right size (show j + 1 ≤ xs.length from hj)
    rw [Nat.succ_mul] at this
    omega
  rw [h.1.cellAt _ h1, flat_at hs xs j x i hx hi, hu]
theorem RowE.frozen {g n c : Nat} (h : RowE base e size enc w (.slice (some ⟨g, 0, none⟩) n c) xs bs) (j : Nat) : w.frozen? ⟨g, j, none⟩ = false := by
  obtain rfl := h.len_
  exact h.1.frozenAt j
end

abbrev IntsE (base : Nat) : EP (List Int) := RowE base 2 1 fun x => [.int .i64 x]
abbrev BoolsE (base : Nat) : EP (List Bool) := RowE base 4 1 fun x => [.bool x]
abbrev PushE (base : Nat) : EP (List (Int × Int)) := RowE base 45 2 fun x => [.int .i64 x.1, .int .i64 x.2]

theorem IntsE.cell' {base g n c : Nat} {w : World} {xs : List Int} {bs : List Nat} (h : IntsE base w (.slice (some ⟨g, 0, none⟩) n c) xs bs) {j : Nat} {x : Int} (hx : xs[j]? = some x) : w.cell? ⟨g, j, none⟩ = some (.int .i64 x) := by
  have := RowE.cell h (fun _ => rfl) (i := 0) hx rfl
  simpa using this
theorem BoolsE.cell' {base g n c : Nat} {w : World} {xs : List Bool} {bs : List Nat} (h : BoolsE base w (.slice (some ⟨g, 0, none⟩) n c) xs bs) {j : Nat} {x : Bool} (hx : xs[j]? = some x) : w.cell? ⟨g, j, none⟩ = some (.bool x) := by
  have := RowE.cell h (fun _ => rfl) (i := 0) hx rfl
  simpa using this
theorem PushE.cell' {base g n c : Nat} {w : World} {xs : List (Int × Int)} {bs : List Nat} (h : PushE base w (.slice (some ⟨g, 0, none⟩) n c) xs bs) {j : Nat} {x : Int × Int} (hx : xs[j]? = some x) :
    w.cell? ⟨g, j * 2, none⟩ = some (.int .i64 x.1) ∧ w.cell? ⟨g, j * 2 + 1, none⟩ = some (.int .i64 x.2) :=
  ⟨RowE.cell h (fun _ => rfl) (i := 0) hx rfl, RowE.cell h (fun _ => rfl) (i := 1) hx rfl⟩

/-- One plain value is written. -/
theorem RowE.put1 {α : Type} {base : Nat} {e : TypeId} {f : α → Value} {w : World} {g n c : Nat} {xs : List α} {bs : List Nat} (h : RowE base e 1 (fun x => [f x]) w (.slice (some ⟨g, 0, none⟩) n c) xs bs) (j : Nat) (y : α) :
    RowE base e 1 (fun x => [f x]) (w.setCell ⟨g, j, none⟩ (f y)) (.slice (some ⟨g, 0, none⟩) n c) (xs.set j y) bs ∧ Turned bs w (w.setCell ⟨g, j, none⟩ (f y)) := by
  obtain rfl := h.len_
  obtain ⟨hr, rfl⟩ := h
  have h1 := hr.stored j (f y)
  rw [flat_set1] at h1
  exact ⟨⟨by rw [List.length_set]; exact h1.1, rfl⟩, Turned.of_grown h1.2 (fun r hr => by cases hr; simp [Value.ownBlock])⟩
/-- Both cells of a pair are written. -/
theorem RowE.put2 {α : Type} {base : Nat} {e : TypeId} {f k : α → Value} {w : World} {g n c : Nat} {xs : List α} {bs : List Nat} (h : RowE base e 2 (fun x => [f x, k x]) w (.slice (some ⟨g, 0, none⟩) n c) xs bs) (j : Nat) (y : α) :
    RowE base e 2 (fun x => [f x, k x]) ((w.setCell ⟨g, j * 2, none⟩ (f y)).setCell ⟨g, j * 2 + 1, none⟩ (k y)) (.slice (some ⟨g, 0, none⟩) n c) (xs.set j y) bs ∧ Turned bs w ((w.setCell ⟨g, j * 2, none⟩ (f y)).setCell ⟨g, j * 2 + 1, none⟩ (k y)) := by
  obtain rfl := h.len_
  obtain ⟨hr, rfl⟩ := h
  have h1 := hr.stored (j * 2) (f y)
  have h2 := h1.1.stored (j * 2 + 1) (k y)
  rw [Nat.mul_comm j 2, flat_set2] at h2
  rw [Nat.mul_comm j 2] at h1 ⊢
  exact ⟨⟨by rw [List.length_set]; exact h2.1, rfl⟩, (Turned.of_grown h1.2 (fun r hr => by cases hr; simp [Value.ownBlock])).trans (Turned.of_grown h2.2 (fun r hr => by cases hr; simp [Value.ownBlock]))⟩


set_option maxHeartbeats 1600000 in
set_option maxRecDepth 100000 in
theorem eq_ints {base base' : Nat} {v v' : Value} {xs : List Int} {bs bs' : List Nat} (w : World) (hn : xs.length ≤ 1048576) (ha : IntsE base w v xs bs) (hb : IntsE base' w v' xs bs') :
    Calls Tryd.prog 38 #[v, v'] w (SeenPost (.bool true) w) := by
  obtain ⟨A, ca, rfl⟩ := ha.slice
  obtain ⟨B, cb, rfl⟩ := hb.slice
  obtain ⟨n, hn'⟩ : ∃ n, n = xs.length := ⟨_, rfl⟩
  have Hn := Lib.hid hn'
  rw [← hn'] at ha hb hn ⊢
  clear hn'
  go_enter Tryd.func38, Tryd.ntmps38
  go_wp2
  go_loopw [5] (fun i wr => ∃ k : Nat, k ≤ n ∧ i = .int .i64 k ∧ Below w.heap.size w wr) (fun i _ => n - (intOf i).toNat)
  case atStart => exact ⟨0, Nat.zero_le _, rfl, Below.refl _ _⟩
  case round =>
    obtain ⟨k, hk, rfl, hB⟩ := hrel
    by_cases hlt : k < n
    · have hkx : k < xs.length := by rw [← Hn.out]; exact hlt
      obtain ⟨g, rfl, hg, _⟩ := RowE.head ha hkx
      obtain ⟨g', rfl, hg', _⟩ := RowE.head hb hkx
      have hx : xs[k]? = some xs[k] := List.getElem?_eq_getElem hkx
      have hc1 := (hB.cell (p := ⟨g, k, none⟩) hg).trans (IntsE.cell' ha hx)
      have hc2 := (hB.cell (p := ⟨g', k, none⟩) hg').trans (IntsE.cell' hb hx)
      generalize xs[k] = x at hc1 hc2
      clear hkx hx
      go_wp2
      go_quiet (fail)
      go_wp2
      go_roundw
      case rel => exact ⟨k + 1, by omega, by go_num, below_drewN hB _⟩
      case measure => simp [intOf]; omega
    · go_wp2
      go_ret
      exact ⟨rfl, hB⟩

set_option maxHeartbeats 1600000 in
set_option maxRecDepth 100000 in
theorem eq_bools {base base' : Nat} {v v' : Value} {xs : List Bool} {bs bs' : List Nat} (w : World) (hn : xs.length ≤ 1048576) (ha : BoolsE base w v xs bs) (hb : BoolsE base' w v' xs bs') :
    Calls Tryd.prog 23 #[v, v'] w (SeenPost (.bool true) w) := by
  obtain ⟨A, ca, rfl⟩ := ha.slice
  obtain ⟨B, cb, rfl⟩ := hb.slice
  obtain ⟨n, hn'⟩ : ∃ n, n = xs.length := ⟨_, rfl⟩
  have Hn := Lib.hid hn'
  rw [← hn'] at ha hb hn ⊢
  clear hn'
  go_enter Tryd.func23, Tryd.ntmps23
  go_wp2
  go_loopw [5] (fun i wr => ∃ k : Nat, k ≤ n ∧ i = .int .i64 k ∧ Below w.heap.size w wr) (fun i _ => n - (intOf i).toNat)
  case atStart => exact ⟨0, Nat.zero_le _, rfl, Below.refl _ _⟩
  case round =>
    obtain ⟨k, hk, rfl, hB⟩ := hrel
    by_cases hlt : k < n
    · have hkx : k < xs.length := by rw [← Hn.out]; exact hlt
      obtain ⟨g, rfl, hg, _⟩ := RowE.head ha hkx
      obtain ⟨g', rfl, hg', _⟩ := RowE.head hb hkx
      have hx : xs[k]? = some xs[k] := List.getElem?_eq_getElem hkx
      have hc1 := (hB.cell (p := ⟨g, k, none⟩) hg).trans (BoolsE.cell' ha hx)
      have hc2 := (hB.cell (p := ⟨g', k, none⟩) hg').trans (BoolsE.cell' hb hx)
      generalize xs[k] = x at hc1 hc2
      clear hkx hx
      go_wp2
      go_quiet (fail)
      go_wp2
      go_roundw
      case rel => exact ⟨k + 1, by omega, by go_num, below_drewN hB _⟩
      case measure => simp [intOf]; omega
    · go_wp2
      go_ret
      exact ⟨rfl, hB⟩

theorem eq_push (x y : Int) (w : World) : Calls Tryd.prog 43 #[.agg #[.int .i64 x, .int .i64 y], .agg #[.int .i64 x, .int .i64 y]] w (SeenPost (.bool true) w) := by
  go_enter Tryd.func43, Tryd.ntmps43
  go_wp2
  go_ret
  exact ⟨rfl, ((Below.refl _ _).alloc (Nat.le_refl _) _).alloc (by simp) _⟩

set_option maxHeartbeats 1600000 in
set_option maxRecDepth 100000 in
theorem eq_pushes {base base' : Nat} {v v' : Value} {xs : List (Int × Int)} {bs bs' : List Nat} (w : World) (hn : xs.length ≤ 1048576) (ha : PushE base w v xs bs) (hb : PushE base' w v' xs bs') :
    Calls Tryd.prog 37 #[v, v'] w (SeenPost (.bool true) w) := by
  obtain ⟨A, ca, rfl⟩ := ha.slice
  obtain ⟨B, cb, rfl⟩ := hb.slice
  obtain ⟨n, hn'⟩ : ∃ n, n = xs.length := ⟨_, rfl⟩
  have Hn := Lib.hid hn'
  rw [← hn'] at ha hb hn ⊢
  clear hn'
  go_enter Tryd.func37, Tryd.ntmps37
  go_wp2
  go_loopw [5] (fun i wr => ∃ k : Nat, k ≤ n ∧ i = .int .i64 k ∧ Below w.heap.size w wr) (fun i _ => n - (intOf i).toNat)
  case atStart => exact ⟨0, Nat.zero_le _, rfl, Below.refl _ _⟩
  case round =>
    obtain ⟨k, hk, rfl, hB⟩ := hrel
    by_cases hlt : k < n
    · have hkx : k < xs.length := by rw [← Hn.out]; exact hlt
      obtain ⟨g, rfl, hg, _⟩ := RowE.head ha hkx
      obtain ⟨g', rfl, hg', _⟩ := RowE.head hb hkx
      have hx : xs[k]? = some xs[k] := List.getElem?_eq_getElem hkx
      have hc1 := (hB.cell (p := ⟨g, k * 2, none⟩) hg).trans (PushE.cell' ha hx).1
      have hc2 := (hB.cell (p := ⟨g', k * 2, none⟩) hg').trans (PushE.cell' hb hx).1
      have hc3 := (hB.cell (p := ⟨g, k * 2 + 1, none⟩) hg).trans (PushE.cell' ha hx).2
      have hc4 := (hB.cell (p := ⟨g', k * 2 + 1, none⟩) hg').trans (PushE.cell' hb hx).2
      have hs := hB.size
      generalize xs[k] = x at hc1 hc2 hc3 hc4
      obtain ⟨x1, x2⟩ := x
      have hmx : Tryd.prog.follows .mixedOrders = true := by kernel_rfl
      clear hkx hx
      go_wp2
      go_region_with (go_at_call 43; refine (eq_push _ _ _).mono ?_; rintro e w2 ⟨rfl, hb2⟩)
      all_goals
        go_wp2
        go_roundw
        case rel => exact ⟨k + 1, by omega, by go_num, by first | exact hB.drew.trans (hb2.mono hs) | exact hB.trans (hb2.mono hs)⟩
        case measure => simp [intOf]; omega
    · go_wp2
      go_ret
      exact ⟨rfl, hB⟩

end Go.Proofs.YtglbmmgancecnaaDoor
