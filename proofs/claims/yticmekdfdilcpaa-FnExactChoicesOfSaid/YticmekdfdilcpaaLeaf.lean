/- The law's own functions on rows of plain cells: they compare, mark, and find the marks. -/
import Derived.Test.YticmekdfdilcpaaMark
import Derived.Test.YticmekdfdilcpaaRows
import Derived.ProofKit
import Derived.OpenShut
import Derived.BigQuiet
import Derived.Deep.QuietTactic
import Derived.Deep.RegionWith
namespace Go.Proofs.Yticmekdfdilcpaa
open Go.RowKit

section
variable {α : Type} {base : Nat} {e : TypeId} {size : Nat} {enc : α → List Value} {w : World} {v : Value} {xs : List α} {bs : List Nat}
theorem RowE.slice (h : RowE base e size enc w v xs bs) : ∃ A c, v = .slice A xs.length c := by
  rcases h.1.2 with ⟨rfl, h0⟩ | ⟨g, cap, cur, rfl, _⟩
  · exact ⟨none, 0, by rw [h0]⟩
  · exact ⟨_, _, rfl⟩
theorem RowE.head {A : Option Addr} {n c : Nat} (h : RowE base e size enc w (.slice A n c) xs bs) {j : Nat} (hj : j < xs.length) : ∃ g, A = some ⟨g, 0, none⟩ ∧ g < w.heap.size ∧ bs = [g] := by
  obtain ⟨h, rfl⟩ := h
  rcases h.2 with ⟨_, h0⟩ | ⟨g, cap, cur, hv, _⟩
  · omega
  · simp only [Value.slice.injEq] at hv
    obtain ⟨rfl, _, rfl⟩ := hv
    exact ⟨g, rfl, (h.lt g rfl).2, rfl⟩
theorem RowE.len_ {A : Option Addr} {n c : Nat} (h : RowE base e size enc w (.slice A n c) xs bs) : n = xs.length := by
  rcases h.1.2 with ⟨hv, h0⟩ | ⟨g, cap, cur, hv, _⟩
  · simp only [Value.slice.injEq] at hv
    omega
  · simp only [Value.slice.injEq] at hv
    exact hv.2.1
theorem RowE.cell {g n c : Nat} (h : RowE base e size enc w (.slice (some ⟨g, 0, none⟩) n c) xs bs) (hs : ∀ x, (enc x).length = size) {j i : Nat} {x : α} {u : Value} (hx : xs[j]? = some x) (hu : (enc x)[i]? = some u) : w.cell? ⟨g, j * size + i, none⟩ = some u := by
  obtain rfl := h.len_
  have hi : i < size := by rw [← hs x]; exact (List.getElem?_eq_some_iff.1 hu).1
  have hj := (List.getElem?_eq_some_iff.1 hx).1
  have h1 : j * size + i < xs.length * size := by
    have := Nat.mul_le_mul_right size (show j + 1 ≤ xs.length from hj)
    rw [Nat.succ_mul] at this
    omega
  rw [h.1.cellAt _ h1, flat_at hs xs j x i hx hi, hu]
theorem RowE.frozen {g n c : Nat} (h : RowE base e size enc w (.slice (some ⟨g, 0, none⟩) n c) xs bs) (j : Nat) : w.frozen? ⟨g, j, none⟩ = false := by
  obtain rfl := h.len_
  exact h.1.frozenAt j
end

abbrev IntsE (base : Nat) : EP (List Int) := RowE base 2 1 fun x => [.int .i64 x]
abbrev BoolsE (base : Nat) : EP (List Bool) := RowE base 4 1 fun x => [.bool x]
abbrev PushE (base : Nat) : EP (List (Int × Int)) := RowE base 97 2 fun x => [.int .i64 x.1, .int .i64 x.2]

theorem IntsE.cell' {base g n c : Nat} {w : World} {xs : List Int} {bs : List Nat} (h : IntsE base w (.slice (some ⟨g, 0, none⟩) n c) xs bs) {j : Nat} {x : Int} (hx : xs[j]? = some x) : w.cell? ⟨g, j, none⟩ = some (.int .i64 x) := by
  have := RowE.cell h (fun _ => rfl) (i := 0) hx rfl
  simpa using this
theorem BoolsE.cell' {base g n c : Nat} {w : World} {xs : List Bool} {bs : List Nat} (h : BoolsE base w (.slice (some ⟨g, 0, none⟩) n c) xs bs) {j : Nat} {x : Bool} (hx : xs[j]? = some x) : w.cell? ⟨g, j, none⟩ = some (.bool x) := by
  have := RowE.cell h (fun _ => rfl) (i := 0) hx rfl
  simpa using this
theorem PushE.cell' {base g n c : Nat} {w : World} {xs : List (Int × Int)} {bs : List Nat} (h : PushE base w (.slice (some ⟨g, 0, none⟩) n c) xs bs) {j : Nat} {x : Int × Int} (hx : xs[j]? = some x) :
    w.cell? ⟨g, j * 2, none⟩ = some (.int .i64 x.1) ∧ w.cell? ⟨g, j * 2 + 1, none⟩ = some (.int .i64 x.2) :=
  ⟨RowE.cell h (fun _ => rfl) (i := 0) hx rfl, RowE.cell h (fun _ => rfl) (i := 1) hx rfl⟩

/-- One plain value is written. -/
theorem RowE.put1 {α : Type} {base : Nat} {e : TypeId} {f : α → Value} {w : World} {g n c : Nat} {xs : List α} {bs : List Nat} (h : RowE base e 1 (fun x => [f x]) w (.slice (some ⟨g, 0, none⟩) n c) xs bs) (j : Nat) (y : α) :
    RowE base e 1 (fun x => [f x]) (w.setCell ⟨g, j, none⟩ (f y)) (.slice (some ⟨g, 0, none⟩) n c) (xs.set j y) bs ∧ Turned bs w (w.setCell ⟨g, j, none⟩ (f y)) := by
  obtain rfl := h.len_
  obtain ⟨hr, rfl⟩ := h
  have h1 := hr.stored j (f y)
  rw [flat_set1] at h1
  exact ⟨⟨by rw [List.length_set]; exact h1.1, rfl⟩, Turned.of_grown h1.2 (fun r hr => by cases hr; simp [Value.ownBlock])⟩
/-- Both cells of a pair are written. -/
theorem RowE.put2 {α : Type} {base : Nat} {e : TypeId} {f k : α → Value} {w : World} {g n c : Nat} {xs : List α} {bs : List Nat} (h : RowE base e 2 (fun x => [f x, k x]) w (.slice (some ⟨g, 0, none⟩) n c) xs bs) (j : Nat) (y : α) :
    RowE base e 2 (fun x => [f x, k x]) ((w.setCell ⟨g, j * 2, none⟩ (f y)).setCell ⟨g, j * 2 + 1, none⟩ (k y)) (.slice (some ⟨g, 0, none⟩) n c) (xs.set j y) bs ∧ Turned bs w ((w.setCell ⟨g, j * 2, none⟩ (f y)).setCell ⟨g, j * 2 + 1, none⟩ (k y)) := by
  obtain rfl := h.len_
  obtain ⟨hr, rfl⟩ := h
  have h1 := hr.stored (j * 2) (f y)
  have h2 := h1.1.stored (j * 2 + 1) (k y)
  rw [Nat.mul_comm j 2, flat_set2] at h2
  rw [Nat.mul_comm j 2] at h1 ⊢
  exact ⟨⟨by rw [List.length_set]; exact h2.1, rfl⟩, (Turned.of_grown h1.2 (fun r hr => by cases hr; simp [Value.ownBlock])).trans (Turned.of_grown h2.2 (fun r hr => by cases hr; simp [Value.ownBlock]))⟩


set_option maxHeartbeats 1600000 in
set_option maxRecDepth 100000 in
theorem eq_ints {base base' : Nat} {v v' : Value} {xs : List Int} {bs bs' : List Nat} (w : World) (hn : xs.length ≤ 1048576) (ha : IntsE base w v xs bs) (hb : IntsE base' w v' xs bs') :
    Calls Try.prog 40 #[v, v'] w (SeenPost (.bool true) w) := by
  obtain ⟨A, ca, rfl⟩ := ha.slice
  obtain ⟨B, cb, rfl⟩ := hb.slice
  obtain ⟨n, hn'⟩ : ∃ n, n = xs.length := ⟨_, rfl⟩
  have Hn := Lib.hid hn'
  rw [← hn'] at ha hb hn ⊢
  clear hn'
  go_enter Try.func40, Try.ntmps40
  go_wp2
  go_loopw [5] (fun i wr => ∃ k : Nat, k ≤ n ∧ i = .int .i64 k ∧ Below w.heap.size w wr) (fun i _ => n - (intOf i).toNat)
  case atStart => exact ⟨0, Nat.zero_le _, rfl, Below.refl _ _⟩
  case round =>
    obtain ⟨k, hk, rfl, hB⟩ := hrel
    by_cases hlt : k < n
    · have hkx : k < xs.length := by rw [← Hn.out]; exact hlt
      obtain ⟨g, rfl, hg, _⟩ := RowE.head ha hkx
      obtain ⟨g', rfl, hg', _⟩ := RowE.head hb hkx
      have hx : xs[k]? = some xs[k] := List.getElem?_eq_getElem hkx
      have hc1 := (hB.cell (p := ⟨g, k, none⟩) hg).trans (IntsE.cell' ha hx)
      have hc2 := (hB.cell (p := ⟨g', k, none⟩) hg').trans (IntsE.cell' hb hx)
      generalize xs[k] = x at hc1 hc2
      clear hkx hx
      go_wp2
      go_quiet (fail)
      go_wp2
      go_roundw
      case rel => exact ⟨k + 1, by omega, by go_num, below_drewN hB _⟩
      case measure => simp [intOf]; omega
    · go_wp2
      go_ret
      exact ⟨rfl, hB⟩

set_option maxHeartbeats 1600000 in
set_option maxRecDepth 100000 in
theorem eq_bools {base base' : Nat} {v v' : Value} {xs : List Bool} {bs bs' : List Nat} (w : World) (hn : xs.length ≤ 1048576) (ha : BoolsE base w v xs bs) (hb : BoolsE base' w v' xs bs') :
    Calls Try.prog 41 #[v, v'] w (SeenPost (.bool true) w) := by
  obtain ⟨A, ca, rfl⟩ := ha.slice
  obtain ⟨B, cb, rfl⟩ := hb.slice
  obtain ⟨n, hn'⟩ : ∃ n, n = xs.length := ⟨_, rfl⟩
  have Hn := Lib.hid hn'
  rw [← hn'] at ha hb hn ⊢
  clear hn'
  go_enter Try.func41, Try.ntmps41
  go_wp2
  go_loopw [5] (fun i wr => ∃ k : Nat, k ≤ n ∧ i = .int .i64 k ∧ Below w.heap.size w wr) (fun i _ => n - (intOf i).toNat)
  case atStart => exact ⟨0, Nat.zero_le _, rfl, Below.refl _ _⟩
  case round =>
    obtain ⟨k, hk, rfl, hB⟩ := hrel
    by_cases hlt : k < n
    · have hkx : k < xs.length := by rw [← Hn.out]; exact hlt
      obtain ⟨g, rfl, hg, _⟩ := RowE.head ha hkx
      obtain ⟨g', rfl, hg', _⟩ := RowE.head hb hkx
      have hx : xs[k]? = some xs[k] := List.getElem?_eq_getElem hkx
      have hc1 := (hB.cell (p := ⟨g, k, none⟩) hg).trans (BoolsE.cell' ha hx)
      have hc2 := (hB.cell (p := ⟨g', k, none⟩) hg').trans (BoolsE.cell' hb hx)
      generalize xs[k] = x at hc1 hc2
      clear hkx hx
      go_wp2
      go_quiet (fail)
      go_wp2
      go_roundw
      case rel => exact ⟨k + 1, by omega, by go_num, below_drewN hB _⟩
      case measure => simp [intOf]; omega
    · go_wp2
      go_ret
      exact ⟨rfl, hB⟩

theorem eq_push (x y : Int) (w : World) : Calls Try.prog 143 #[.agg #[.int .i64 x, .int .i64 y], .agg #[.int .i64 x, .int .i64 y]] w (SeenPost (.bool true) w) := by
  go_enter Try.func143, Try.ntmps143
  go_wp2
  go_ret
  exact ⟨rfl, ((Below.refl _ _).alloc (Nat.le_refl _) _).alloc (by simp) _⟩

set_option maxHeartbeats 1600000 in
set_option maxRecDepth 100000 in
theorem eq_pushes {base base' : Nat} {v v' : Value} {xs : List (Int × Int)} {bs bs' : List Nat} (w : World) (hn : xs.length ≤ 1048576) (ha : PushE base w v xs bs) (hb : PushE base' w v' xs bs') :
    Calls Try.prog 104 #[v, v'] w (SeenPost (.bool true) w) := by
  obtain ⟨A, ca, rfl⟩ := ha.slice
  obtain ⟨B, cb, rfl⟩ := hb.slice
  obtain ⟨n, hn'⟩ : ∃ n, n = xs.length := ⟨_, rfl⟩
  have Hn := Lib.hid hn'
  rw [← hn'] at ha hb hn ⊢
  clear hn'
  go_enter Try.func104, Try.ntmps104
  go_wp2
  go_loopw [5] (fun i wr => ∃ k : Nat, k ≤ n ∧ i = .int .i64 k ∧ Below w.heap.size w wr) (fun i _ => n - (intOf i).toNat)
  case atStart => exact ⟨0, Nat.zero_le _, rfl, Below.refl _ _⟩
  case round =>
    obtain ⟨k, hk, rfl, hB⟩ := hrel
    by_cases hlt : k < n
    · have hkx : k < xs.length := by rw [← Hn.out]; exact hlt
      obtain ⟨g, rfl, hg, _⟩ := RowE.head ha hkx
      obtain ⟨g', rfl, hg', _⟩ := RowE.head hb hkx
      have hx : xs[k]? = some xs[k] := List.getElem?_eq_getElem hkx
      have hc1 := (hB.cell (p := ⟨g, k * 2, none⟩) hg).trans (PushE.cell' ha hx).1
      have hc2 := (hB.cell (p := ⟨g', k * 2, none⟩) hg').trans (PushE.cell' hb hx).1
      have hc3 := (hB.cell (p := ⟨g, k * 2 + 1, none⟩) hg).trans (PushE.cell' ha hx).2
      have hc4 := (hB.cell (p := ⟨g', k * 2 + 1, none⟩) hg').trans (PushE.cell' hb hx).2
      have hs := hB.size
      generalize xs[k] = x at hc1 hc2 hc3 hc4
      obtain ⟨x1, x2⟩ := x
      have hmx : Try.prog.follows .mixedOrders = true := by kernel_rfl
      clear hkx hx
      go_wp2
      go_region_with (go_at_call 143; refine (eq_push _ _ _).mono ?_; rintro e w2 ⟨rfl, hb2⟩)
      all_goals
        go_wp2
        go_roundw
        case rel => exact ⟨k + 1, by omega, by go_num, by first | exact hB.drew.trans (hb2.mono hs) | exact hB.trans (hb2.mono hs)⟩
        case measure => simp [intOf]; omega
    · go_wp2
      go_ret
      exact ⟨rfl, hB⟩

set_option maxHeartbeats 1600000 in
set_option maxRecDepth 100000 in
theorem mark_ints {base : Nat} {v : Value} {xs : List Int} {bs : List Nat} (k0 : Nat) (w : World) (hn : xs.length ≤ 1048576) (hk0 : k0 ≤ 8388608) (ha : IntsE base w v xs bs) :
    Calls Try.prog 68 #[v, .int .i64 (k0 : Int)] w (MarkPost (IntsE base) v (mkI k0 xs) bs (k0 + xs.length) w) := by
  obtain ⟨A, ca, rfl⟩ := ha.slice
  obtain ⟨n, hn'⟩ : ∃ n, n = xs.length := ⟨_, rfl⟩
  have Hn := Lib.hid hn'
  rw [← hn'] at ha hn ⊢
  clear hn'
  go_enter Try.func68, Try.ntmps68
  go_wp2
  go_loopw [1, 5] (fun kk i wr => ∃ j : Nat, j ≤ n ∧ i = .int .i64 j ∧ kk = .int .i64 ((k0 : Int) + (j : Int)) ∧ IntsE base wr (.slice A n ca) (front (mkI k0 xs) xs j) bs ∧ Turned bs w wr) (fun _ i _ => n - (intOf i).toNat)
  case atStart => exact ⟨0, Nat.zero_le _, rfl, by go_num, by rw [front_zero]; exact ha, Turned.refl _ _⟩
  case round =>
    obtain ⟨j, hj, rfl, rfl, hE, hT⟩ := hrel
    by_cases hlt : j < n
    · have hjx : j < xs.length := by rw [← Hn.out]; exact hlt
      have hjf : j < (front (mkI k0 xs) xs j).length := by rw [front_len _ _ (mkI_len _ _)]; exact hjx
      obtain ⟨g, rfl, hg, _⟩ := RowE.head hE hjf
      obtain ⟨y, hx⟩ : ∃ y, (front (mkI k0 xs) xs j)[j]? = some y := ⟨_, List.getElem?_eq_getElem hjf⟩
      have hc := IntsE.cell' hE hx
      have hf := RowE.frozen hE j
      have hp := RowE.put1 (f := fun x => Value.int .i64 x) hE j ((k0 + j : Nat) : Int)
      rw [front_set _ _ (mkI_len _ _) (mkI_at k0 xs j hjx), show ((k0 + j : Nat) : Int) = (k0 : Int) + (j : Int) from by omega] at hp
      clear hjx hjf hx
      go_wp2
      go_roundw
      case rel => exact ⟨j + 1, by omega, by go_num, by go_num, hp.1, hT.trans hp.2⟩
      case measure => simp [intOf]; omega
    · have e : j = n := by omega
      subst e
      go_wp2
      go_ret
      rw [Hn.out] at hE
      rw [front_all _ _ (mkI_len _ _)] at hE
      rw [← Hn.out] at hE
      exact ⟨by go_num, hE, hT⟩

set_option maxHeartbeats 1600000 in
set_option maxRecDepth 100000 in
theorem mark_bools {base : Nat} {v : Value} {xs : List Bool} {bs : List Nat} (k0 : Nat) (w : World) (hn : xs.length ≤ 1048576) (hk0 : k0 ≤ 8388608) (ha : BoolsE base w v xs bs) :
    Calls Try.prog 64 #[v, .int .i64 (k0 : Int)] w (MarkPost (BoolsE base) v (mkB k0 xs) bs (k0 + xs.length) w) := by
  obtain ⟨A, ca, rfl⟩ := ha.slice
  obtain ⟨n, hn'⟩ : ∃ n, n = xs.length := ⟨_, rfl⟩
  have Hn := Lib.hid hn'
  rw [← hn'] at ha hn ⊢
  clear hn'
  go_enter Try.func64, Try.ntmps64
  go_wp2
  go_loopw [1, 5] (fun kk i wr => ∃ j : Nat, j ≤ n ∧ i = .int .i64 j ∧ kk = .int .i64 ((k0 : Int) + (j : Int)) ∧ BoolsE base wr (.slice A n ca) (front (mkB k0 xs) xs j) bs ∧ Turned bs w wr) (fun _ i _ => n - (intOf i).toNat)
  case atStart => exact ⟨0, Nat.zero_le _, rfl, by go_num, by rw [front_zero]; exact ha, Turned.refl _ _⟩
  case round =>
    obtain ⟨j, hj, rfl, rfl, hE, hT⟩ := hrel
    by_cases hlt : j < n
    · have hjx : j < xs.length := by rw [← Hn.out]; exact hlt
      have hjf : j < (front (mkB k0 xs) xs j).length := by rw [front_len _ _ (mkB_len _ _)]; exact hjx
      obtain ⟨g, rfl, hg, _⟩ := RowE.head hE hjf
      obtain ⟨y, hx⟩ : ∃ y, (front (mkB k0 xs) xs j)[j]? = some y := ⟨_, List.getElem?_eq_getElem hjf⟩
      have hc := BoolsE.cell' hE hx
      have hf := RowE.frozen hE j
      have hp := RowE.put1 (f := fun x => Value.bool x) hE j (((k0 : Int) + (j : Int)) % 3 == 0)
      rw [front_set _ _ (mkB_len _ _) (mkB_at k0 xs j hjx)] at hp
      clear hjx hjf hx
      go_wp2
      go_roundw
      case rel => exact ⟨j + 1, by omega, by go_num, by go_num, hp.1, hT.trans hp.2⟩
      case measure => simp [intOf]; omega
    · have e : j = n := by omega
      subst e
      go_wp2
      go_ret
      rw [Hn.out] at hE
      rw [front_all _ _ (mkB_len _ _)] at hE
      rw [← Hn.out] at hE
      exact ⟨by go_num, hE, hT⟩

set_option maxHeartbeats 1600000 in
set_option maxRecDepth 100000 in
theorem mark_pushes {base : Nat} {v : Value} {xs : List (Int × Int)} {bs : List Nat} (k0 : Nat) (w : World) (hn : xs.length ≤ 1048576) (hk0 : k0 ≤ 8388608) (ha : PushE base w v xs bs) :
    Calls Try.prog 105 #[v, .int .i64 (k0 : Int)] w (MarkPost (PushE base) v (mkP k0 xs) bs (k0 + 2 * xs.length) w) := by
  obtain ⟨A, ca, rfl⟩ := ha.slice
  obtain ⟨n, hn'⟩ : ∃ n, n = xs.length := ⟨_, rfl⟩
  have Hn := Lib.hid hn'
  rw [← hn'] at ha hn ⊢
  clear hn'
  go_enter Try.func105, Try.ntmps105
  go_wp2
  go_loopw [1, 5] (fun kk i wr => ∃ j : Nat, j ≤ n ∧ i = .int .i64 j ∧ kk = .int .i64 ((k0 : Int) + 2 * (j : Int)) ∧ PushE base wr (.slice A n ca) (front (mkP k0 xs) xs j) bs ∧ Turned bs w wr) (fun _ i _ => n - (intOf i).toNat)
  case atStart => exact ⟨0, Nat.zero_le _, rfl, by go_num, by rw [front_zero]; exact ha, Turned.refl _ _⟩
  case round =>
    obtain ⟨j, hj, rfl, rfl, hE, hT⟩ := hrel
    by_cases hlt : j < n
    · have hjx : j < xs.length := by rw [← Hn.out]; exact hlt
      have hjf : j < (front (mkP k0 xs) xs j).length := by rw [front_len _ _ (mkP_len _ _)]; exact hjx
      obtain ⟨g, rfl, hg, _⟩ := RowE.head hE hjf
      obtain ⟨y, hx⟩ : ∃ y, (front (mkP k0 xs) xs j)[j]? = some y := ⟨_, List.getElem?_eq_getElem hjf⟩
      have hc := (PushE.cell' hE hx).1
      have hc2 := (PushE.cell' hE hx).2
      have hf := RowE.frozen hE (j * 2)
      have hf2 := RowE.frozen hE (j * 2 + 1)
      have hp := RowE.put2 (f := fun x : Int × Int => Value.int .i64 x.1) (k := fun x : Int × Int => Value.int .i64 x.2) hE j (((k0 + 2 * j : Nat) : Int), ((k0 + 2 * j + 1 : Nat) : Int))
      rw [front_set _ _ (mkP_len _ _) (mkP_at k0 xs j hjx)] at hp
      simp only [show ((k0 + 2 * j : Nat) : Int) = (k0 : Int) + 2 * (j : Int) from by omega, show ((k0 + 2 * j + 1 : Nat) : Int) = (k0 : Int) + 2 * (j : Int) + 1 from by omega] at hp
      clear hjx hjf hx
      go_wp2
      go_roundw
      case rel => exact ⟨j + 1, by omega, by go_num, by go_num, hp.1, hT.trans hp.2⟩
      case measure => simp [intOf]; omega
    · have e : j = n := by omega
      subst e
      go_wp2
      go_ret
      rw [Hn.out] at hE
      rw [front_all _ _ (mkP_len _ _)] at hE
      rw [← Hn.out] at hE
      exact ⟨by go_num, hE, hT⟩

set_option maxHeartbeats 1600000 in
set_option maxRecDepth 100000 in
theorem held_ints {base : Nat} {v : Value} {xs : List Int} {bs : List Nat} (k0 : Nat) (w : World) (hn : xs.length ≤ 1048576) (hk0 : k0 ≤ 8388608) (ha : IntsE base w v (mkI k0 xs) bs) :
    Calls Try.prog 71 #[v, .int .i64 (k0 : Int)] w (SeenPost (.int .i64 ((k0 + xs.length : Nat) : Int)) w) := by
  obtain ⟨A, ca, rfl⟩ := ha.slice
  rw [mkI_len] at ha ⊢
  obtain ⟨n, hn'⟩ : ∃ n, n = xs.length := ⟨_, rfl⟩
  have Hn := Lib.hid hn'
  rw [← hn'] at ha hn ⊢
  clear hn'
  go_enter Try.func71, Try.ntmps71
  go_wp2
  go_loopw [1, 5] (fun kk i wr => ∃ j : Nat, j ≤ n ∧ i = .int .i64 j ∧ kk = .int .i64 ((k0 : Int) + (j : Int)) ∧ Below w.heap.size w wr) (fun _ i _ => n - (intOf i).toNat)
  case atStart => exact ⟨0, Nat.zero_le _, rfl, by go_num, Below.refl _ _⟩
  case round =>
    obtain ⟨j, hj, rfl, rfl, hB⟩ := hrel
    by_cases hlt : j < n
    · have hjx : j < xs.length := by rw [← Hn.out]; exact hlt
      obtain ⟨g, rfl, hg, _⟩ := RowE.head ha (by rw [mkI_len]; exact hjx)
      have hx := mkI_at k0 xs j hjx
      have hc := (hB.cell (p := ⟨g, j, none⟩) hg).trans (IntsE.cell' ha hx)
      rw [show ((k0 + j : Nat) : Int) = (k0 : Int) + (j : Int) from by omega] at hc
      clear hjx hx
      go_wp2
      go_roundw
      case rel => exact ⟨j + 1, by omega, by go_num, by go_num, hB⟩
      case measure => simp [intOf]; omega
    · have e : j = n := by omega
      subst e
      go_wp2
      go_ret
      exact ⟨by go_num, hB⟩

set_option maxHeartbeats 1600000 in
set_option maxRecDepth 100000 in
theorem held_bools {base : Nat} {v : Value} {xs : List Bool} {bs : List Nat} (k0 : Nat) (w : World) (hn : xs.length ≤ 1048576) (hk0 : k0 ≤ 8388608) (ha : BoolsE base w v (mkB k0 xs) bs) :
    Calls Try.prog 72 #[v, .int .i64 (k0 : Int)] w (SeenPost (.int .i64 ((k0 + xs.length : Nat) : Int)) w) := by
  obtain ⟨A, ca, rfl⟩ := ha.slice
  rw [mkB_len] at ha ⊢
  obtain ⟨n, hn'⟩ : ∃ n, n = xs.length := ⟨_, rfl⟩
  have Hn := Lib.hid hn'
  rw [← hn'] at ha hn ⊢
  clear hn'
  go_enter Try.func72, Try.ntmps72
  go_wp2
  go_loopw [1, 5] (fun kk i wr => ∃ j : Nat, j ≤ n ∧ i = .int .i64 j ∧ kk = .int .i64 ((k0 : Int) + (j : Int)) ∧ Below w.heap.size w wr) (fun _ i _ => n - (intOf i).toNat)
  case atStart => exact ⟨0, Nat.zero_le _, rfl, by go_num, Below.refl _ _⟩
  case round =>
    obtain ⟨j, hj, rfl, rfl, hB⟩ := hrel
    by_cases hlt : j < n
    · have hjx : j < xs.length := by rw [← Hn.out]; exact hlt
      obtain ⟨g, rfl, hg, _⟩ := RowE.head ha (by rw [mkB_len]; exact hjx)
      have hx := mkB_at k0 xs j hjx
      have hc := (hB.cell (p := ⟨g, j, none⟩) hg).trans (BoolsE.cell' ha hx)
      clear hjx hx
      go_wp2
      go_roundw
      case rel => exact ⟨j + 1, by omega, by go_num, by go_num, hB⟩
      case measure => simp [intOf]; omega
    · have e : j = n := by omega
      subst e
      go_wp2
      go_ret
      exact ⟨by go_num, hB⟩

set_option maxHeartbeats 1600000 in
set_option maxRecDepth 100000 in
theorem held_pushes {base : Nat} {v : Value} {xs : List (Int × Int)} {bs : List Nat} (k0 : Nat) (w : World) (hn : xs.length ≤ 1048576) (hk0 : k0 ≤ 8388608) (ha : PushE base w v (mkP k0 xs) bs) :
    Calls Try.prog 144 #[v, .int .i64 (k0 : Int)] w (SeenPost (.int .i64 ((k0 + 2 * xs.length : Nat) : Int)) w) := by
  obtain ⟨A, ca, rfl⟩ := ha.slice
  rw [mkP_len] at ha ⊢
  obtain ⟨n, hn'⟩ : ∃ n, n = xs.length := ⟨_, rfl⟩
  have Hn := Lib.hid hn'
  rw [← hn'] at ha hn ⊢
  clear hn'
  go_enter Try.func144, Try.ntmps144
  go_wp2
  go_loopw [1, 5] (fun kk i wr => ∃ j : Nat, j ≤ n ∧ i = .int .i64 j ∧ kk = .int .i64 ((k0 : Int) + 2 * (j : Int)) ∧ Below w.heap.size w wr) (fun _ i _ => n - (intOf i).toNat)
  case atStart => exact ⟨0, Nat.zero_le _, rfl, by go_num, Below.refl _ _⟩
  case round =>
    obtain ⟨j, hj, rfl, rfl, hB⟩ := hrel
    by_cases hlt : j < n
    · have hjx : j < xs.length := by rw [← Hn.out]; exact hlt
      obtain ⟨g, rfl, hg, _⟩ := RowE.head ha (by rw [mkP_len]; exact hjx)
      have hx := mkP_at k0 xs j hjx
      have hc := (hB.cell (p := ⟨g, j * 2, none⟩) hg).trans (PushE.cell' ha hx).1
      have hc2 := (hB.cell (p := ⟨g, j * 2 + 1, none⟩) hg).trans (PushE.cell' ha hx).2
      simp only [show ((k0 + 2 * j : Nat) : Int) = (k0 : Int) + 2 * (j : Int) from by omega, show ((k0 + 2 * j + 1 : Nat) : Int) = (k0 : Int) + 2 * (j : Int) + 1 from by omega] at hc hc2
      clear hjx hx
      go_wp2
      go_roundw
      case rel => exact ⟨j + 1, by omega, by go_num, by go_num, hB⟩
      case measure => simp [intOf]; omega
    · have e : j = n := by omega
      subst e
      go_wp2
      go_ret
      exact ⟨by go_num, hB⟩
end Go.Proofs.Yticmekdfdilcpaa
