/- The program's check of a rewriter: one move, a row, a table. -/
import Derived.Test.YtmkamodmnplclaaVaM
import Derived.Test.YtmkamodmnplclaaValidWord0
import Derived.Test.YtmkamodmnplclaaBox
import Derived.Deep.Cut
import Derived.Deep.RegionHeld3
import Derived.Deep.RegionLaw
namespace Go.Proofs.Ytmkamodmnplclaa
open Go.RowKit
set_option linter.unusedVariables false

/-- Where the first stands that does not pass, or -1. -/
def badP {α : Type} (p : α → Bool) (xs : List α) : Int := match xs.findIdx? (fun x => !p x) with | some i => (i : Int) | none => -1
theorem badP_at {α : Type} {p : α → Bool} {xs : List α} {k : Nat} {x : α} (h : xs[k]? = some x) (ha : (xs.take k).all p = true) (hx : p x = false) : badP p xs = (k : Int) := by
  have hk := (List.getElem?_eq_some_iff.1 h).1
  have : xs.findIdx? (fun x => !p x) = some k := by
    rw [List.findIdx?_eq_some_iff_getElem]
    refine ⟨hk, ?_, fun j hj => ?_⟩
    · have := (List.getElem?_eq_some_iff.1 h).2
      rw [this, hx]; rfl
    · simp only [List.all_eq_true] at ha
      have := ha (xs[j]'(by omega)) (List.mem_of_getElem? (i := j) (by rw [List.getElem?_take, if_pos hj]; exact List.getElem?_eq_getElem (by omega)))
      rw [this]; simp
  unfold badP
  rw [this]
theorem badP_none {α : Type} {p : α → Bool} {xs : List α} (ha : xs.all p = true) : badP p xs = -1 := by
  have : xs.findIdx? (fun x => !p x) = none := by
    rw [List.findIdx?_eq_none_iff]
    intro x hx
    simp only [List.all_eq_true] at ha
    rw [ha x hx]; rfl
  unfold badP
  rw [this]
theorem badP_all {α : Type} (p : α → Bool) (xs : List α) : decide ((0 : Int) ≤ badP p xs) = !xs.all p := by
  unfold badP
  cases h : xs.findIdx? (fun x => !p x) with
  | none =>
    rw [List.findIdx?_eq_none_iff] at h
    have : xs.all p = true := by
      simp only [List.all_eq_true]
      intro x hx
      have := h x hx
      simpa using this
    rw [this]; rfl
  | some i =>
    rw [List.findIdx?_eq_some_iff_getElem] at h
    obtain ⟨hi, h1, _⟩ := h
    rw [all_no (List.getElem?_eq_getElem hi) (by simpa using h1)]
    simp
theorem impl_wB (s : ByteArray) (w : World) (hs : s.size ≤ 1048576) : Calls Try.prog 181 #[.string s] w (TupPost (.bool (wB s)) w) := by
  cases h : wB s with
  | true => exact impl_valid_yes s w ((wB_iff s).1 h)
  | false => exact impl_valid_no s w hs (wB_no h)
theorem impl_below (x : Int) (n : Nat) (w : World) : Calls Try.prog 75 #[.int .i64 x, .int .i64 (n : Int)] w fun e w' => e = .returned (.bool (inB 0 ((n : Int) - 1) x)) ∧ w = w' := by
  by_cases h1 : 0 ≤ x
  · by_cases h2 : x < (n : Int)
    · rw [inB, decide_eq_true (⟨h1, by omega⟩ : 0 ≤ x ∧ x ≤ (n : Int) - 1)]
      go_enter Try.func75, Try.ntmps75
      go_wp2
      go_ret
      exact ⟨rfl, rfl⟩
    · rw [inB, decide_eq_false (by omega : ¬ (0 ≤ x ∧ x ≤ (n : Int) - 1))]
      go_enter Try.func75, Try.ntmps75
      go_wp2
      go_ret
      exact ⟨rfl, rfl⟩
  · rw [inB, decide_eq_false (by omega : ¬ (0 ≤ x ∧ x ≤ (n : Int) - 1))]
    go_enter Try.func75, Try.ntmps75
    go_wp2
    go_ret
    exact ⟨rfl, rfl⟩
theorem impl_states {A0 : Option Addr} {n k0 : Nat} (sk st : Int) (z1 z2 : Value) (w : World) : Calls Try.prog 74 #[.agg #[.int .i64 sk, .int .i64 st, .slice A0 n k0, z1, z2]] w (TupPost (.int .i64 (n : Int)) w) := by
  have hB := Lib.hid ((Below.refl w.heap.size w).alloc (Nat.le_refl _) (.cells #[.int .i64 sk, .int .i64 st, .slice A0 n k0, z1, z2] 36))
  go_enter Try.func74, Try.ntmps74
  go_wp2
  go_ret
  exact ⟨rfl, hB.out⟩
set_option maxHeartbeats 6400000 in
set_option maxRecDepth 100000 in
theorem om_isOf_no1 {A0 : Option Addr} {n k0 : Nat} (x : Int) (t : ByteArray) (sk st : Int) (z1 z2 : Value) (w : World) (h1 : inB 0 ((n : Int) - 1) x = false) :
    Calls Try.prog 180 #[.agg #[.int .i64 x, .string t], .agg #[.int .i64 sk, .int .i64 st, .slice A0 n k0, z1, z2]] w (TupPost (.bool false) w) := by
  have H1 := Lib.hid (fun W => impl_below x n W)
  rw [h1] at H1
  clear h1
  have hB1 := (Below.refl w.heap.size w).alloc (Nat.le_refl _) (.cells #[.int .i64 x, .string t] 78)
  have hB2 := hB1.alloc (by simp) (.cells #[.int .i64 sk, .int .i64 st, .slice A0 n k0, z1, z2] 36)
  have x1 := (Bx.new w 78 #[.int .i64 x, .string t]).alloc (.cells #[.int .i64 sk, .int .i64 st, .slice A0 n k0, z1, z2] 36)
  have x2 := Bx.new (w.alloc (.cells #[.int .i64 x, .string t] 78)) 36 #[.int .i64 sk, .int .i64 st, .slice A0 n k0, z1, z2]
  rw [World.size_alloc] at x2
  obtain ⟨W2, hW2⟩ : ∃ W, W = (w.alloc (.cells #[.int .i64 x, .string t] 78)).alloc (.cells #[.int .i64 sk, .int .i64 st, .slice A0 n k0, z1, z2] 36) := ⟨_, rfl⟩
  rw [← hW2] at hB2 x1 x2
  have HX := Lib.hid (And.intro x1 x2)
  have HB := Lib.hid hB2
  have HW := Lib.hid hW2
  have hR := Below.refl W2.heap.size W2
  obtain ⟨c0, c1, cl⟩ := id x1.all2
  obtain ⟨d0, d1, d2, d3, d4, dl⟩ := id x2.all5
  have HS := Lib.hid (fun W => impl_states (A0 := A0) (n := n) (k0 := k0) sk st z1 z2 W)
  have HF := Lib.hid (fun (W' : World) (hw : Below W2.heap.size W2 W') => (And.intro ((x1.later hw).cell 0 _ rfl) (And.intro ((x1.later hw).cell 1 _ rfl) (And.intro ((x2.later hw).cell 0 _ rfl) (And.intro ((x2.later hw).cell 1 _ rfl) (And.intro ((x2.later hw).cell 2 _ rfl) (And.intro ((x2.later hw).cell 3 _ rfl) ((x2.later hw).cell 4 _ rfl))))))))
  clear hB1 hB2 x1 x2 hW2
  go_enter Try.func180, Try.ntmps180
  go_upto_region 1 with fail
  rw [← HW.out]
  first
  | (go_region_law (first
      | (go_simp
         go_at_call 74
         refine (HS.out _).mono ?_
         rintro e w1 ⟨rfl, hb1⟩
         have hw1 : Below W2.heap.size W2 w1 := by first | exact hR.drew.trans (hb1.mono hR.drew.size) | exact hb1
         obtain ⟨c0, c1, d0, d1, d2, d3, d4⟩ := HF.out _ hw1)
      | (go_simp
         go_at_call 75
         refine (H1.out _).mono ?_
         rintro e w' ⟨rfl, rfl⟩)))
  | fail
  all_goals
    go_wp2
    go_ret
    exact ⟨rfl, HB.out.trans (hw1.mono HB.out.size)⟩
set_option maxHeartbeats 6400000 in
set_option maxRecDepth 100000 in
theorem om_isOf_no2 {A0 : Option Addr} {n k0 : Nat} (x : Int) (t : ByteArray) (sk st : Int) (z1 z2 : Value) (w : World) (h1 : inB 0 ((n : Int) - 1) x = true) (h2 : ¬ t.size ≤ 4) :
    Calls Try.prog 180 #[.agg #[.int .i64 x, .string t], .agg #[.int .i64 sk, .int .i64 st, .slice A0 n k0, z1, z2]] w (TupPost (.bool false) w) := by
  have H1 := Lib.hid (fun W => impl_below x n W)
  rw [h1] at H1
  clear h1
  have e1 : decide ((t.size : Int) ≤ 4) = false := decide_eq_false (by omega)
  have e2 : ¬ ((t.size : Int) ≤ 4) := by omega
  have hB1 := (Below.refl w.heap.size w).alloc (Nat.le_refl _) (.cells #[.int .i64 x, .string t] 78)
  have hB2 := hB1.alloc (by simp) (.cells #[.int .i64 sk, .int .i64 st, .slice A0 n k0, z1, z2] 36)
  have x1 := (Bx.new w 78 #[.int .i64 x, .string t]).alloc (.cells #[.int .i64 sk, .int .i64 st, .slice A0 n k0, z1, z2] 36)
  have x2 := Bx.new (w.alloc (.cells #[.int .i64 x, .string t] 78)) 36 #[.int .i64 sk, .int .i64 st, .slice A0 n k0, z1, z2]
  rw [World.size_alloc] at x2
  obtain ⟨W2, hW2⟩ : ∃ W, W = (w.alloc (.cells #[.int .i64 x, .string t] 78)).alloc (.cells #[.int .i64 sk, .int .i64 st, .slice A0 n k0, z1, z2] 36) := ⟨_, rfl⟩
  rw [← hW2] at hB2 x1 x2
  have HX := Lib.hid (And.intro x1 x2)
  have HB := Lib.hid hB2
  have HW := Lib.hid hW2
  have hR := Below.refl W2.heap.size W2
  obtain ⟨c0, c1, cl⟩ := id x1.all2
  obtain ⟨d0, d1, d2, d3, d4, dl⟩ := id x2.all5
  have HS := Lib.hid (fun W => impl_states (A0 := A0) (n := n) (k0 := k0) sk st z1 z2 W)
  have HF := Lib.hid (fun (W' : World) (hw : Below W2.heap.size W2 W') => (And.intro ((x1.later hw).cell 0 _ rfl) (And.intro ((x1.later hw).cell 1 _ rfl) (And.intro ((x2.later hw).cell 0 _ rfl) (And.intro ((x2.later hw).cell 1 _ rfl) (And.intro ((x2.later hw).cell 2 _ rfl) (And.intro ((x2.later hw).cell 3 _ rfl) ((x2.later hw).cell 4 _ rfl))))))))
  clear hB1 hB2 x1 x2 hW2
  go_enter Try.func180, Try.ntmps180
  go_upto_region 1 with fail
  rw [← HW.out]
  first
  | (go_region_law (first
      | (go_simp
         go_at_call 74
         refine (HS.out _).mono ?_
         rintro e w1 ⟨rfl, hb1⟩
         have hw1 : Below W2.heap.size W2 w1 := by first | exact hR.drew.trans (hb1.mono hR.drew.size) | exact hb1
         obtain ⟨c0, c1, d0, d1, d2, d3, d4⟩ := HF.out _ hw1)
      | (go_simp
         go_at_call 75
         refine (H1.out _).mono ?_
         rintro e w' ⟨rfl, rfl⟩)))
  | fail
  all_goals
    go_wp2
    go_ret
    exact ⟨rfl, HB.out.trans (hw1.mono HB.out.size)⟩
set_option maxHeartbeats 6400000 in
set_option maxRecDepth 100000 in
theorem om_isOf_go {A0 : Option Addr} {n k0 : Nat} (x : Int) (t : ByteArray) (sk st : Int) (z1 z2 : Value) (w : World) (h1 : inB 0 ((n : Int) - 1) x = true) (h2 : t.size ≤ 4) :
    Calls Try.prog 180 #[.agg #[.int .i64 x, .string t], .agg #[.int .i64 sk, .int .i64 st, .slice A0 n k0, z1, z2]] w (TupPost (.bool (wB t)) w) := by
  have H1 := Lib.hid (fun W => impl_below x n W)
  rw [h1] at H1
  clear h1
  have e1 : decide ((t.size : Int) ≤ 4) = true := decide_eq_true (by omega)
  have e2 : (t.size : Int) ≤ 4 := by omega
  have H3 := Lib.hid (fun W => impl_wB t W (by omega))
  generalize wB t = r at *
  have hB1 := (Below.refl w.heap.size w).alloc (Nat.le_refl _) (.cells #[.int .i64 x, .string t] 78)
  have hB2 := hB1.alloc (by simp) (.cells #[.int .i64 sk, .int .i64 st, .slice A0 n k0, z1, z2] 36)
  have x1 := (Bx.new w 78 #[.int .i64 x, .string t]).alloc (.cells #[.int .i64 sk, .int .i64 st, .slice A0 n k0, z1, z2] 36)
  have x2 := Bx.new (w.alloc (.cells #[.int .i64 x, .string t] 78)) 36 #[.int .i64 sk, .int .i64 st, .slice A0 n k0, z1, z2]
  rw [World.size_alloc] at x2
  obtain ⟨W2, hW2⟩ : ∃ W, W = (w.alloc (.cells #[.int .i64 x, .string t] 78)).alloc (.cells #[.int .i64 sk, .int .i64 st, .slice A0 n k0, z1, z2] 36) := ⟨_, rfl⟩
  rw [← hW2] at hB2 x1 x2
  have HX := Lib.hid (And.intro x1 x2)
  have HB := Lib.hid hB2
  have HW := Lib.hid hW2
  have hR := Below.refl W2.heap.size W2
  obtain ⟨c0, c1, cl⟩ := id x1.all2
  obtain ⟨d0, d1, d2, d3, d4, dl⟩ := id x2.all5
  have HS := Lib.hid (fun W => impl_states (A0 := A0) (n := n) (k0 := k0) sk st z1 z2 W)
  have HF := Lib.hid (fun (W' : World) (hw : Below W2.heap.size W2 W') => (And.intro ((x1.later hw).cell 0 _ rfl) (And.intro ((x1.later hw).cell 1 _ rfl) (And.intro ((x2.later hw).cell 0 _ rfl) (And.intro ((x2.later hw).cell 1 _ rfl) (And.intro ((x2.later hw).cell 2 _ rfl) (And.intro ((x2.later hw).cell 3 _ rfl) ((x2.later hw).cell 4 _ rfl))))))))
  clear hB1 hB2 x1 x2 hW2
  go_enter Try.func180, Try.ntmps180
  go_upto_region 1 with fail
  rw [← HW.out]
  go_region_held3 (fun w' => w'.cell? ⟨w.heap.size, 0, none⟩ = some (.int .i64 x) ∧ w'.cell? ⟨w.heap.size, 1, none⟩ = some (.string t) ∧ w'.cell? ⟨w.heap.size + 1, 0, none⟩ = some (.int .i64 sk) ∧ w'.cell? ⟨w.heap.size + 1, 1, none⟩ = some (.int .i64 st) ∧ w'.cell? ⟨w.heap.size + 1, 2, none⟩ = some (.slice A0 n k0) ∧ w'.cell? ⟨w.heap.size + 1, 3, none⟩ = some z1 ∧ w'.cell? ⟨w.heap.size + 1, 4, none⟩ = some z2)
    (first | exact ⟨c0, c1, d0, d1, d2, d3, d4⟩ | exact HF.out _ hw3 | exact HF.out _ hw1)
    (first
      | (go_at_call 74
         refine (HS.out _).mono ?_
         rintro e w1 ⟨rfl, hb1⟩
         have hw1 : Below W2.heap.size W2 w1 := by first | exact hR.drew.trans (hb1.mono hR.drew.size) | exact hb1)
      | (go_at_call 75
         refine (H1.out _).mono ?_
         rintro e w' ⟨rfl, rfl⟩)
      | (go_at_call 181
         refine (H3.out _).mono ?_
         rintro e w3 ⟨rfl, hb3⟩
         have hw3 : Below W2.heap.size W2 w3 := hw1.trans (hb3.mono hw1.size)))
  all_goals
    go_wp2
    go_ret
    exact ⟨rfl, HB.out.trans (hw3.mono HB.out.size)⟩
theorem om_isOf {A0 : Option Addr} {n k0 : Nat} (x : Int) (t : ByteArray) (sk st : Int) (z1 z2 : Value) (w : World) :
    Calls Try.prog 180 #[.agg #[.int .i64 x, .string t], .agg #[.int .i64 sk, .int .i64 st, .slice A0 n k0, z1, z2]] w (TupPost (.bool (omB n (x, t))) w) := by
  unfold omB outB
  cases h1 : inB 0 ((n : Int) - 1) x with
  | false => exact om_isOf_no1 x t sk st z1 z2 w h1
  | true =>
    by_cases h2 : t.size ≤ 4
    · rw [decide_eq_true h2]; exact om_isOf_go x t sk st z1 z2 w h1 h2
    · rw [decide_eq_false h2]; exact om_isOf_no2 x t sk st z1 z2 w h1 h2
end Go.Proofs.Ytmkamodmnplclaa
