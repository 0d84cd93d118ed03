/- Arguments: what slices that came in read as; the law's own functions that copy them. -/
import Derived.Test.YticmekdfdilcpaaMany
import Derived.Deep.OwnRows
namespace Go.Proofs.Yticmekdfdilcpaa
open Go.RowKit
set_option linter.unusedVariables false

/-- What a value reads as, wherever it lies. -/
abbrev RP (α : Type) : Type := World → Value → α → Prop
structure RP.Ok {α : Type} (R : RP α) : Prop where
  later : ∀ {w w' : World} {v : Value} {x : α}, R w v x → Below w.heap.size w w' → R w' v x

theorem add_one' (a : Addr) : a.add 1 = ⟨a.block, a.off + 1, none⟩ := by unfold Addr.add; simp
theorem add_block (a : Addr) (j : Nat) : (a.add j).block = a.block := by unfold Addr.add; split <;> rfl
/-- A slice of plain cells. -/
def RowR {α : Type} (size : Nat) (enc : α → List Value) : RP (List α) := fun w v xs => ∃ (A : Option Addr) (c : Nat), v = .slice A xs.length c ∧ xs.length ≤ maxLen ∧
  ∀ (j : Nat) (x : α) (i : Nat) (u : Value), xs[j]? = some x → (enc x)[i]? = some u → ∃ a, A = some a ∧ a.block < w.heap.size ∧ w.cell? ((a.add (j * size)).add i) = some u
/-- A slice of values. -/
def ManyR {α : Type} (R : RP α) : RP (List α) := fun w v xs => ∃ (A : Option Addr) (c : Nat), v = .slice A xs.length c ∧ xs.length ≤ maxLen ∧
  ∀ (j : Nat) (x : α), xs[j]? = some x → ∃ a u, A = some a ∧ a.block < w.heap.size ∧ w.cell? (a.add j) = some u ∧ R w u x
theorem RowR.ok {α : Type} (size : Nat) (enc : α → List Value) : RP.Ok (RowR size enc) where
  later := by
    rintro w w' v xs ⟨A, c, rfl, hm, h⟩ hb
    refine ⟨A, c, rfl, hm, fun j x i u hx hu => ?_⟩
    obtain ⟨a, ha, hl, hc⟩ := h j x i u hx hu
    exact ⟨a, ha, Nat.lt_of_lt_of_le hl hb.size, (hb.cell (by rw [add_block, add_block]; exact hl)).trans hc⟩
theorem ManyR.ok {α : Type} {R : RP α} (hR : RP.Ok R) : RP.Ok (ManyR R) where
  later := by
    rintro w w' v xs ⟨A, c, rfl, hm, h⟩ hb
    refine ⟨A, c, rfl, hm, fun j x hx => ?_⟩
    obtain ⟨a, u, ha, hl, hc, hr⟩ := h j x hx
    exact ⟨a, u, ha, Nat.lt_of_lt_of_le hl hb.size, (hb.cell (by rw [add_block]; exact hl)).trans hc, hR.later hr hb⟩

abbrev IntsR : RP (List Int) := RowR 1 fun x => [.int .i64 x]
abbrev BoolsR : RP (List Bool) := RowR 1 fun x => [.bool x]
abbrev PushR : RP (List (Int × Int)) := RowR 2 fun x => [.int .i64 x.1, .int .i64 x.2]
abbrev Ints2R : RP (List (List Int)) := ManyR IntsR
abbrev Ints3R : RP (List (List (List Int))) := ManyR Ints2R
abbrev Push2R : RP (List (List (Int × Int))) := ManyR PushR
theorem add_zero' (a : Addr) : a.add 0 = a := by unfold Addr.add; simp

/-- What a call that answers a new value leaves. -/
def NewPost {α : Type} (E : Nat → EP α) (x : α) (w : World) (e : Ending) (w' : World) : Prop := ∃ v bs, e = .returned v ∧ E w.heap.size w' v x bs ∧ Below w.heap.size w w'

theorem toInfo_i64 : (Try.prog.info? 2).map (fun i => (i.zero, i.size, i.bytes)) = some (some (.int .i64 0), 1, 8) := by kernel_rfl
theorem toInfo_bool : (Try.prog.info? 4).map (fun i => (i.zero, i.size, i.bytes)) = some (some (.bool false), 1, 1) := by kernel_rfl
theorem toInfo_push : (Try.prog.info? 97).map (fun i => (i.zero, i.size, i.bytes)) = some (some (.agg #[.int .i64 0, .int .i64 0]), 2, 16) := by kernel_rfl
theorem toInfo_ints : (Try.prog.info? 22).map (fun i => (i.zero, i.size, i.bytes)) = some (some (.slice none 0 0), 1, 24) := by kernel_rfl
theorem toInfo_ints2 : (Try.prog.info? 38).map (fun i => (i.zero, i.size, i.bytes)) = some (some (.slice none 0 0), 1, 24) := by kernel_rfl
theorem toInfo_pushes : (Try.prog.info? 94).map (fun i => (i.zero, i.size, i.bytes)) = some (some (.slice none 0 0), 1, 24) := by kernel_rfl

theorem madeCells_two (z : Value) (m : Nat) : (madeCells #[z, z] m).toList = List.replicate m z := by
  apply List.ext_getElem?
  intro j
  by_cases hj : j < m
  · rw [List.getElem?_replicate, if_pos hj]
    simp only [madeCells, Array.toList_map, List.getElem?_map]
    simp [hj]
    rcases Nat.mod_two_eq_zero_or_one j with h | h <;> rw [h] <;> rfl
  · rw [List.getElem?_replicate, if_neg hj]
    simp [madeCells, hj]
theorem flat_rep1 {α : Type} (f : α → Value) (x : α) (n : Nat) : (List.replicate n x).flatMap (fun x => [f x]) = List.replicate n (f x) := by
  induction n with
  | zero => rfl
  | succ n ih => rw [List.replicate_succ, List.flatMap_cons, ih]; rfl
theorem flat_rep2 {α : Type} (f g : α → Value) (x : α) (n : Nat) (h : f x = g x) : (List.replicate n x).flatMap (fun x => [f x, g x]) = List.replicate (n * 2) (f x) := by
  induction n with
  | zero => rfl
  | succ n ih => rw [List.replicate_succ, List.flatMap_cons, ih, ← h, Nat.succ_mul]; rfl
theorem rowE_made1 {α : Type} (w : World) (e : TypeId) (f : α → Value) (x : α) (n : Nat) (hn : n ≤ maxLen) : RowE w.heap.size e 1 (fun x => [f x]) (w.alloc (.cells (madeCells #[f x] n) e)) (.slice (some ⟨w.heap.size, 0, none⟩) n n) (List.replicate n x) [w.heap.size] := by
  have h := World.ownsRow_lit (base := w.heap.size) (e := e) (size := 1) w (madeCells #[f x] n) n (Nat.le_refl _) hn (by simp [size_madeCells])
  rw [toList_madeCells_one] at h
  exact ⟨by rw [List.length_replicate, flat_rep1]; exact h, rfl⟩
theorem rowE_made2 {α : Type} (w : World) (e : TypeId) (f g : α → Value) (x : α) (hx : f x = g x) (n : Nat) (hn : n ≤ maxLen) : RowE w.heap.size e 2 (fun x => [f x, g x]) (w.alloc (.cells (madeCells #[f x, f x] (n * 2)) e)) (.slice (some ⟨w.heap.size, 0, none⟩) n n) (List.replicate n x) [w.heap.size] := by
  have h := World.ownsRow_lit (base := w.heap.size) (e := e) (size := 2) w (madeCells #[f x, f x] (n * 2)) n (Nat.le_refl _) hn (by simp [size_madeCells])
  rw [madeCells_two] at h
  exact ⟨by rw [List.length_replicate, flat_rep2 f g x n hx]; exact h, rfl⟩
theorem make_push (n : Nat) (hn : n ≤ 1048576) (w : World) :
    (Instr.makeSlice 94 (.int .i64 (n : Int)) (.int .i64 (n : Int))).run Try.prog w = .ok (.slice (some ⟨w.heap.size, 0, none⟩) n n) (w.alloc (.cells (madeCells #[.int .i64 0, .int .i64 0] (n * 2)) 97)) := by
  obtain ⟨i, hi, hzz⟩ := Option.map_eq_some_iff.1 toInfo_push
  simp only [Prod.mk.injEq] at hzz
  obtain ⟨hz, hs, hb⟩ := hzz
  have hr := run_make (P := Try.prog) w 94 97 i _ Try.underlying94 hi hz .i64 .i64 n n (by omega) (Int.le_refl _) (by rw [hb]; omega) (by omega)
  simp only [Int.toNat_natCast, hs] at hr
  exact hr


set_option maxHeartbeats 1600000 in
set_option maxRecDepth 100000 in
theorem to_ints {v : Value} {xs : List Int} (w : World) (hn : Bd1 xs) (ha : IntsR w v xs) : Calls Try.prog 33 #[v] w (NewPost IntsE xs w) := by
  obtain ⟨A, ca, rfl, _, hA⟩ := ha
  unfold Bd1 at hn
  obtain ⟨n, hn'⟩ : ∃ n, n = xs.length := ⟨_, rfl⟩
  have Hn := Lib.hid hn'
  have HA := Lib.hid hA
  rw [← hn'] at hn ⊢
  have hmk := run_make_row' (P := Try.prog) 22 2 (.int .i64 0) 8 Try.underlying22 toInfo_i64 rfl .i64 .i64 n (by omega) (by omega)
  have hst : IntsE w.heap.size (w.alloc (.cells (madeCells #[.int .i64 0] n) 2)) (.slice (some ⟨w.heap.size, 0, none⟩) n n) (List.replicate n (0 : Int)) [w.heap.size] := rowE_made1 w 2 (fun x => Value.int .i64 x) (0 : Int) n (by unfold maxLen; omega)
  have Hst := Lib.hid hst
  clear hn' hA hst
  go_enter Try.func33, Try.ntmps33
  go_wp2
  go_loopw [4] (fun i wr => ∃ j : Nat, j ≤ n ∧ i = .int .i64 j ∧ IntsE w.heap.size wr (.slice (some ⟨w.heap.size, 0, none⟩) n n) (front xs (List.replicate n (0 : Int)) j) [w.heap.size] ∧ Below w.heap.size w wr) (fun i _ => n - (intOf i).toNat)
  case atStart => exact ⟨0, Nat.zero_le _, rfl, by rw [front_zero]; exact Hst.out, (Below.refl _ _).alloc (Nat.le_refl _) _⟩
  case round =>
    obtain ⟨j, hj, rfl, hE, hB⟩ := hrel
    have hrl : xs.length = (List.replicate n (0 : Int)).length := by rw [List.length_replicate]; exact Hn.out.symm
    by_cases hlt : j < n
    · have hjx : j < xs.length := by rw [← Hn.out]; exact hlt
      obtain ⟨x, hx⟩ : ∃ x, xs[j]? = some x := ⟨_, List.getElem?_eq_getElem hjx⟩
      obtain ⟨y, hy⟩ : ∃ y, (front xs (List.replicate n (0 : Int)) j)[j]? = some y := ⟨_, List.getElem?_eq_getElem (by rw [front_len _ _ hrl, ← hrl]; exact hjx)⟩
      obtain ⟨A', rfl, hl, hc0⟩ := HA.out j x 0 _ hx rfl
      rw [add_zero', Nat.mul_one] at hc0
      have hc := (hB.cell (p := A'.add j) (by rw [add_block]; exact hl)).trans hc0
      have hcy := IntsE.cell' hE hy
      have hf := RowE.frozen hE j
      have hp := RowE.put1 (f := fun x => Value.int .i64 x) hE j x
      rw [front_set _ _ hrl hx] at hp
      have hB2 := hB.setCell (p := ⟨w.heap.size, j, none⟩) (Nat.le_refl _) (Value.int .i64 x)
      clear hjx hx hy hc0 hrl
      go_wp2
      go_roundw
      case rel => exact ⟨j + 1, by omega, by go_num, hp.1, hB2⟩
      case measure => simp [intOf]; omega
    · have e : j = n := by omega
      subst e
      rw [show j = (List.replicate j (0 : Int)).length from by rw [List.length_replicate]] at hE
      have hE2 := front_all _ _ hrl
      clear hrl
      go_wp2
      go_ret
      rw [List.length_replicate] at hE hE2
      rw [hE2] at hE
      exact ⟨_, _, rfl, hE, hB⟩

set_option maxHeartbeats 1600000 in
set_option maxRecDepth 100000 in
theorem to_bools {v : Value} {xs : List Bool} (w : World) (hn : Bd1 xs) (ha : BoolsR w v xs) : Calls Try.prog 34 #[v] w (NewPost BoolsE xs w) := by
  obtain ⟨A, ca, rfl, _, hA⟩ := ha
  unfold Bd1 at hn
  obtain ⟨n, hn'⟩ : ∃ n, n = xs.length := ⟨_, rfl⟩
  have Hn := Lib.hid hn'
  have HA := Lib.hid hA
  rw [← hn'] at hn ⊢
  have hmk := run_make_row' (P := Try.prog) 23 4 (.bool false) 1 Try.underlying23 toInfo_bool rfl .i64 .i64 n (by omega) (by omega)
  have hst : BoolsE w.heap.size (w.alloc (.cells (madeCells #[.bool false] n) 4)) (.slice (some ⟨w.heap.size, 0, none⟩) n n) (List.replicate n false) [w.heap.size] := rowE_made1 w 4 (fun x => Value.bool x) false n (by unfold maxLen; omega)
  have Hst := Lib.hid hst
  clear hn' hA hst
  go_enter Try.func34, Try.ntmps34
  go_wp2
  go_loopw [4] (fun i wr => ∃ j : Nat, j ≤ n ∧ i = .int .i64 j ∧ BoolsE w.heap.size wr (.slice (some ⟨w.heap.size, 0, none⟩) n n) (front xs (List.replicate n false) j) [w.heap.size] ∧ Below w.heap.size w wr) (fun i _ => n - (intOf i).toNat)
  case atStart => exact ⟨0, Nat.zero_le _, rfl, by rw [front_zero]; exact Hst.out, (Below.refl _ _).alloc (Nat.le_refl _) _⟩
  case round =>
    obtain ⟨j, hj, rfl, hE, hB⟩ := hrel
    have hrl : xs.length = (List.replicate n false).length := by rw [List.length_replicate]; exact Hn.out.symm
    by_cases hlt : j < n
    · have hjx : j < xs.length := by rw [← Hn.out]; exact hlt
      obtain ⟨x, hx⟩ : ∃ x, xs[j]? = some x := ⟨_, List.getElem?_eq_getElem hjx⟩
      obtain ⟨y, hy⟩ : ∃ y, (front xs (List.replicate n false) j)[j]? = some y := ⟨_, List.getElem?_eq_getElem (by rw [front_len _ _ hrl, ← hrl]; exact hjx)⟩
      obtain ⟨A', rfl, hl, hc0⟩ := HA.out j x 0 _ hx rfl
      rw [add_zero', Nat.mul_one] at hc0
      have hc := (hB.cell (p := A'.add j) (by rw [add_block]; exact hl)).trans hc0
      have hcy := BoolsE.cell' hE hy
      have hf := RowE.frozen hE j
      have hp := RowE.put1 (f := fun x => Value.bool x) hE j x
      rw [front_set _ _ hrl hx] at hp
      have hB2 := hB.setCell (p := ⟨w.heap.size, j, none⟩) (Nat.le_refl _) (Value.bool x)
      clear hjx hx hy hc0 hrl
      go_wp2
      go_roundw
      case rel => exact ⟨j + 1, by omega, by go_num, hp.1, hB2⟩
      case measure => simp [intOf]; omega
    · have e : j = n := by omega
      subst e
      rw [show j = (List.replicate j false).length from by rw [List.length_replicate]] at hE
      have hE2 := front_all _ _ hrl
      clear hrl
      go_wp2
      go_ret
      rw [List.length_replicate] at hE hE2
      rw [hE2] at hE
      exact ⟨_, _, rfl, hE, hB⟩

theorem to_push (x y : Int) (w : World) : Calls Try.prog 142 #[.agg #[.int .i64 x, .int .i64 y]] w fun e w' => e = .returned (.agg #[.int .i64 x, .int .i64 y]) ∧ Below w.heap.size w w' := by
  have hB := (((Below.refl w.heap.size w).alloc (Nat.le_refl _) (.cells #[.int .i64 x, .int .i64 y] 176)).alloc (by simp) (.cells #[.int .i64 x, .int .i64 y] 97)).alloc (by simp; omega) (.cells #[.int .i64 x, .int .i64 y] 97)
  go_enter Try.func142, Try.ntmps142
  go_wp2
  exact bodyPost_ret (v := .agg #[.int .i64 x, .int .i64 y]) (by simp [results, Try.results142, go_sem]) rfl ⟨rfl, hB⟩

set_option maxHeartbeats 1600000 in
set_option maxRecDepth 100000 in
theorem to_pushes {v : Value} {xs : List (Int × Int)} (w : World) (hn : Bd1 xs) (ha : PushR w v xs) : Calls Try.prog 98 #[v] w (NewPost PushE xs w) := by
  obtain ⟨A, ca, rfl, _, hA⟩ := ha
  unfold Bd1 at hn
  obtain ⟨n, hn'⟩ : ∃ n, n = xs.length := ⟨_, rfl⟩
  have Hn := Lib.hid hn'
  have HA := Lib.hid hA
  rw [← hn'] at hn ⊢
  have hmk := make_push n hn
  have hst : PushE w.heap.size (w.alloc (.cells (madeCells #[.int .i64 0, .int .i64 0] (n * 2)) 97)) (.slice (some ⟨w.heap.size, 0, none⟩) n n) (List.replicate n ((0, 0) : Int × Int)) [w.heap.size] := rowE_made2 w 97 (fun x : Int × Int => Value.int .i64 x.1) (fun x : Int × Int => Value.int .i64 x.2) (0, 0) rfl n (by unfold maxLen; omega)
  have Hst := Lib.hid hst
  clear hn' hA hst
  go_enter Try.func98, Try.ntmps98
  go_wp2
  go_loopw [4] (fun i wr => ∃ j : Nat, j ≤ n ∧ i = .int .i64 j ∧ PushE w.heap.size wr (.slice (some ⟨w.heap.size, 0, none⟩) n n) (front xs (List.replicate n ((0, 0) : Int × Int)) j) [w.heap.size] ∧ Below w.heap.size w wr) (fun i _ => n - (intOf i).toNat)
  case atStart => exact ⟨0, Nat.zero_le _, rfl, by rw [front_zero]; exact Hst.out, (Below.refl _ _).alloc (Nat.le_refl _) _⟩
  case round =>
    obtain ⟨j, hj, rfl, hE, hB⟩ := hrel
    have hrl : xs.length = (List.replicate n ((0, 0) : Int × Int)).length := by rw [List.length_replicate]; exact Hn.out.symm
    by_cases hlt : j < n
    · have hjx : j < xs.length := by rw [← Hn.out]; exact hlt
      obtain ⟨x, hx⟩ : ∃ x, xs[j]? = some x := ⟨_, List.getElem?_eq_getElem hjx⟩
      obtain ⟨y, hy⟩ : ∃ y, (front xs (List.replicate n ((0, 0) : Int × Int)) j)[j]? = some y := ⟨_, List.getElem?_eq_getElem (by rw [front_len _ _ hrl, ← hrl]; exact hjx)⟩
      obtain ⟨A', rfl, hl, hc0⟩ := HA.out j x 0 _ hx rfl
      obtain ⟨A'', hAA, _, hc1⟩ := HA.out j x 1 _ hx rfl
      cases hAA
      rw [add_zero'] at hc0
      have hc := (hB.cell (p := A'.add (j * 2)) (by rw [add_block]; exact hl)).trans hc0
      have hc2 := (hB.cell (p := (A'.add (j * 2)).add 1) (by rw [add_block, add_block]; exact hl)).trans hc1
      rw [add_one'] at hc2
      have hs := hB.size
      obtain ⟨x1, x2⟩ := x
      have hp0 := fun (W : World) (hb : Below wr.heap.size wr W) => RowE.put2 (f := fun x : Int × Int => Value.int .i64 x.1) (k := fun x : Int × Int => Value.int .i64 x.2) ((push_ok _).later hE hb) j (x1, x2)
      rw [front_set _ _ hrl hx] at hp0
      have Hp := Lib.hid hp0
      have hcy := fun (W : World) (hb : Below wr.heap.size wr W) => PushE.cell' ((push_ok _).later hE hb) hy
      have hfz := fun (W : World) (hb : Below wr.heap.size wr W) (q : Nat) => RowE.frozen ((push_ok _).later hE hb) q
      have Hcy := Lib.hid hcy
      have Hfz := Lib.hid hfz
      clear hjx hx hy hc0 hc1 hrl hp0 hcy hfz
      go_wp2_with (go_at_call 142; refine (to_push _ _ _).mono ?_; rintro e w2 ⟨rfl, hb2⟩; obtain ⟨y1, y2⟩ := Hcy.out _ hb2; have z1 := Hfz.out _ hb2 (j * 2); have z2 := Hfz.out _ hb2 (j * 2 + 1))
      have hB2 := ((hB.trans (hb2.mono hs)).setCell (p := ⟨w.heap.size, j * 2, none⟩) (Nat.le_refl _) (.int .i64 x1)).setCell (p := ⟨w.heap.size, j * 2 + 1, none⟩) (Nat.le_refl _) (.int .i64 x2)
      have hp := (Hp.out _ hb2).1
      go_roundw
      case rel => exact ⟨j + 1, by omega, by go_num, hp, hB2⟩
      case measure => simp [intOf]; omega
    · have e : j = n := by omega
      subst e
      rw [show j = (List.replicate j ((0, 0) : Int × Int)).length from by rw [List.length_replicate]] at hE
      have hE2 := front_all _ _ hrl
      clear hrl
      go_wp2
      go_ret
      rw [List.length_replicate] at hE hE2
      rw [hE2] at hE
      exact ⟨_, _, rfl, hE, hB⟩

/-- A row of values of which the first j have come. -/
structure PartE {α : Type} (base g n : Nat) (e : TypeId) (E : EP α) (xs : List α) (j : Nat) (us : List Value) (bss : List (List Nat)) (W : World) : Prop where
  row : W.ownsRow base e 1 (.slice (some ⟨g, 0, none⟩) n n) n (us ++ List.replicate (n - j) (.slice none 0 0))
  lu : us.length = j
  lb : bss.length = j
  each : ∀ (i : Nat) x u c, xs[i]? = some x → us[i]? = some u → bss[i]? = some c → E W u x c
  nodup : (g :: bss.flatten).Nodup

theorem PartE.start {α : Type} {w : World} {n : Nat} {e : TypeId} {E : EP α} {xs : List α} (hn : n ≤ maxLen) : PartE w.heap.size w.heap.size n e E xs 0 [] [] (w.alloc (.cells (madeCells #[.slice none 0 0] n) e)) := by
  have h := World.ownsRow_lit (base := w.heap.size) (e := e) (size := 1) w (madeCells #[.slice none 0 0] n) n (Nat.le_refl _) hn (by simp [size_madeCells])
  rw [toList_madeCells_one] at h
  exact ⟨by simpa using h, rfl, rfl, fun i x u c _ h => by simp at h, by simp⟩
theorem PartE.next {α : Type} {base g n : Nat} {e : TypeId} {E E' : EP α} {xs : List α} {j : Nat} {us : List Value} {bss : List (List Nat)} {W w2 : World} (h : PartE base g n e E xs j us bss W) (hE : EP.Ok base E) (hx : xs.length = n) (hj : j < n) (hg : base ≤ g)
    {x : α} (hxj : xs[j]? = some x) (hb : Below W.heap.size W w2) {u : Value} {cs : List Nat} (he : E w2 u x cs) (hlt : ∀ b ∈ cs, W.heap.size ≤ b) (hcn : cs.Nodup) :
    PartE base g n e E xs (j + 1) (us ++ [u]) (bss ++ [cs]) (w2.setCell ⟨g, j, none⟩ u) := by
  have hgl := (h.row.lt g rfl).2
  have hr2 := row_below h.row hb
  have hst := hr2.stored j u
  have old : ∀ (i : Nat) c, bss[i]? = some c → ∀ b ∈ c, b < W.heap.size ∧ b ≠ g := by
    intro i c hc b hbc
    have hil := (List.getElem?_eq_some_iff.1 hc).1
    have hlb := h.lb
    have hlu := h.lu
    have := (hE.lt (h.each i (xs[i]'(by omega)) (us[i]'(by omega)) c (List.getElem?_eq_getElem (by omega)) (List.getElem?_eq_getElem (by omega)) hc) b hbc).2
    refine ⟨this, fun e' => ?_⟩
    have hn := h.nodup
    rw [List.nodup_cons] at hn
    exact hn.1 (List.mem_flatten.2 ⟨c, List.mem_of_getElem? hc, e' ▸ hbc⟩)
  have cell : ∀ b, b ≠ g → (w2.setCell ⟨g, j, none⟩ u).heap[b]? = w2.heap[b]? := fun b hbg => Below.heap_setCell _ _ _ b hbg
  refine ⟨?_, by simp [h.lu], by simp [h.lb], ?_, ?_⟩
  · have e1 : (us ++ List.replicate (n - j) (Value.slice none 0 0)).set j u = (us ++ [u]) ++ List.replicate (n - (j + 1)) (Value.slice none 0 0) := by
      rw [List.set_append_right _ _ (by rw [h.lu]; exact Nat.le_refl _), h.lu, Nat.sub_self, show n - j = (n - (j + 1)) + 1 from by omega, List.replicate_succ, List.set_cons_zero, List.append_assoc]
      rfl
    rw [e1] at hst
    exact hst.1
  · intro i y u' c h1 h2 h3
    by_cases hi : i < j
    · rw [List.getElem?_append_left (by rw [h.lu]; exact hi)] at h2
      rw [List.getElem?_append_left (by rw [h.lb]; exact hi)] at h3
      refine hE.kept (h.each i y u' c h1 h2 h3) fun b hbc => ?_
      obtain ⟨o1, o2⟩ := old i c h3 b hbc
      exact (cell b o2).trans (hb.block b o1)
    · have hil := (List.getElem?_eq_some_iff.1 h3).1
      rw [List.length_append, List.length_singleton, h.lb] at hil
      have hij : i = j := by omega
      subst hij
      rw [List.getElem?_append_right (by rw [h.lu]; exact Nat.le_refl _), h.lu, Nat.sub_self] at h2
      rw [List.getElem?_append_right (by rw [h.lb]; exact Nat.le_refl _), h.lb, Nat.sub_self] at h3
      simp at h2 h3
      rw [hxj] at h1
      cases h1; subst h2; subst h3
      exact hE.kept he fun b hbc => cell b (fun e' => by have := hlt b hbc; omega)
  · have hn := h.nodup
    rw [List.nodup_cons] at hn ⊢
    rw [List.flatten_append, List.flatten_singleton, List.mem_append, List.nodup_append]
    refine ⟨fun hm => ?_, hn.2, hcn, fun a ha b hbc e' => ?_⟩
    · rcases hm with hm | hm
      · exact hn.1 hm
      · have := hlt g hm; omega
    · subst e'
      obtain ⟨c, hc, hac⟩ := List.mem_flatten.1 ha
      obtain ⟨i, hi⟩ := List.mem_iff_getElem?.1 hc
      have := (old i c hi a hac).1
      have := hlt a hbc
      omega
theorem PartE.done {α : Type} {base g n : Nat} {e : TypeId} {E : EP α} {xs : List α} {us : List Value} {bss : List (List Nat)} {W : World} (h : PartE base g n e E xs n us bss W) (hx : xs.length = n) : ManyE base e E W (.slice (some ⟨g, 0, none⟩) n n) xs (g :: bss.flatten) := by
  subst hx
  have hr := h.row
  rw [Nat.sub_self, List.replicate_zero, List.append_nil] at hr
  exact ⟨us, bss, hr, h.lb, h.each, rfl, h.nodup⟩

theorem rowE_base {α : Type} {base base' : Nat} {e : TypeId} {size : Nat} {enc : α → List Value} {w : World} {v : Value} {xs : List α} {bs : List Nat} (h : RowE base e size enc w v xs bs) (hb : base' ≤ base) : RowE base' e size enc w v xs bs := ⟨row_base h.1 hb, h.2⟩
theorem manyE_base {α : Type} {base base' : Nat} {e : TypeId} {E E' : EP α} (hE : ∀ w v x bs, E w v x bs → E' w v x bs) {w : World} {v : Value} {xs : List α} {bs : List Nat} (h : ManyE base e E w v xs bs) (hb : base' ≤ base) : ManyE base' e E' w v xs bs := by
  obtain ⟨vs, bss, hr, hl, hx, rfl, hn⟩ := h
  exact ⟨vs, bss, row_base hr hb, hl, fun j x u cs h1 h2 h3 => hE _ _ _ _ (hx j x u cs h1 h2 h3), rfl, hn⟩
theorem ints_base {b b' : Nat} (hb : b' ≤ b) (w : World) (v : Value) (x : List Int) (bs : List Nat) (h : IntsE b w v x bs) : IntsE b' w v x bs := rowE_base h hb
theorem bools_base {b b' : Nat} (hb : b' ≤ b) (w : World) (v : Value) (x : List Bool) (bs : List Nat) (h : BoolsE b w v x bs) : BoolsE b' w v x bs := rowE_base h hb
theorem pushes_base {b b' : Nat} (hb : b' ≤ b) (w : World) (v : Value) (x : List (Int × Int)) (bs : List Nat) (h : PushE b w v x bs) : PushE b' w v x bs := rowE_base h hb
theorem ints2_base {b b' : Nat} (hb : b' ≤ b) (w : World) (v : Value) (x : List (List Int)) (bs : List Nat) (h : Ints2E b w v x bs) : Ints2E b' w v x bs := manyE_base (ints_base hb) h hb
theorem ints3_base {b b' : Nat} (hb : b' ≤ b) (w : World) (v : Value) (x : List (List (List Int))) (bs : List Nat) (h : Ints3E b w v x bs) : Ints3E b' w v x bs := manyE_base (ints2_base hb) h hb
theorem pushes2_base {b b' : Nat} (hb : b' ≤ b) (w : World) (v : Value) (x : List (List (Int × Int))) (bs : List Nat) (h : Push2E b w v x bs) : Push2E b' w v x bs := manyE_base (pushes_base hb) h hb
theorem ints_r : RP.Ok IntsR := RowR.ok _ _
theorem bools_r : RP.Ok BoolsR := RowR.ok _ _
theorem pushes_r : RP.Ok PushR := RowR.ok _ _
theorem ints2_r : RP.Ok Ints2R := ManyR.ok ints_r
theorem ints3_r : RP.Ok Ints3R := ManyR.ok ints2_r
theorem pushes2_r : RP.Ok Push2R := ManyR.ok pushes_r


set_option maxHeartbeats 1600000 in
set_option maxRecDepth 100000 in
theorem to_ints2 {v : Value} {xs : List (List Int)} (w : World) (hn : Bd2 xs) (ha : Ints2R w v xs) : Calls Try.prog 51 #[v] w (NewPost Ints2E xs w) := by
  obtain ⟨A, ca, rfl, _, hA⟩ := ha
  obtain ⟨hn, hn2⟩ := hn
  obtain ⟨n, hn'⟩ : ∃ n, n = xs.length := ⟨_, rfl⟩
  have Hn := Lib.hid hn'
  have HA := Lib.hid hA
  have Hn2 := Lib.hid hn2
  rw [← hn'] at hn ⊢
  have hmk := run_make_row' (P := Try.prog) 38 22 (.slice none 0 0) 24 Try.underlying38 toInfo_ints rfl .i64 .i64 n (by omega) (by omega)
  have hst : PartE w.heap.size w.heap.size n 22 (IntsE w.heap.size) xs 0 [] [] (w.alloc (.cells (madeCells #[.slice none 0 0] n) 22)) := PartE.start (by unfold maxLen; omega)
  have Hst := Lib.hid hst
  clear hn' hA hst hn2
  go_enter Try.func51, Try.ntmps51
  go_wp2
  go_loopw [4] (fun i wr => ∃ (j : Nat) (us : List Value) (bss : List (List Nat)), j ≤ n ∧ i = .int .i64 j ∧ PartE w.heap.size w.heap.size n 22 (IntsE w.heap.size) xs j us bss wr ∧ Below w.heap.size w wr) (fun i _ => n - (intOf i).toNat)
  case atStart => exact ⟨0, [], [], Nat.zero_le _, rfl, Hst.out, (Below.refl _ _).alloc (Nat.le_refl _) _⟩
  case round =>
    obtain ⟨j, us, bss, hj, rfl, hP, hB⟩ := hrel
    by_cases hlt : j < n
    · have hjx : j < xs.length := by rw [← Hn.out]; exact hlt
      obtain ⟨x, hx⟩ : ∃ x, xs[j]? = some x := ⟨_, List.getElem?_eq_getElem hjx⟩
      obtain ⟨A', u, rfl, hl, hc0, hu⟩ := HA.out j x hx
      have hc := (hB.cell (p := A'.add j) (by rw [add_block]; exact hl)).trans hc0
      have hs := hB.size
      have hsub := to_ints wr (Hn2.out x (List.mem_of_getElem? hx)) (ints_r.later hu hB)
      have Hsub := Lib.hid hsub
      have hgl := (hP.row.lt w.heap.size rfl).2
      have Hx := Lib.hid hx
      clear hjx hx hc0 hsub hu
      go_wp2_with (go_at_call 33; refine Hsub.out.mono ?_; rintro e w2 ⟨v2, cs, rfl, hv2, hb2⟩; have hrow2 := row_below hP.row hb2; have hf := hrow2.frozenAt j; obtain ⟨q, hq⟩ : ∃ q, w2.cell? ⟨w.heap.size, j, none⟩ = some q := (by
        have h1 := hrow2.cellAt j (by omega)
        have h2 := hrow2.1
        rw [h1, List.getElem?_eq_getElem (by rw [h2]; omega)]
        exact ⟨_, rfl⟩); obtain ⟨A2, c2, rfl⟩ := RowE.slice hv2)
      have hP2 := hP.next (E' := IntsE w.heap.size) (ints_ok _) Hn.out.symm hlt (Nat.le_refl _) Hx.out hb2 (ints_base hs _ _ _ _ hv2) (fun b hb => ((ints_ok _).lt hv2 b hb).1) ((ints_ok _).nodup hv2)
      have hB2 := (hB.trans (hb2.mono hs)).setCell (p := ⟨w.heap.size, j, none⟩) (Nat.le_refl _) (.slice A2 x.length c2)
      go_roundw
      case rel => exact ⟨j + 1, _, _, by omega, by go_num, hP2, hB2⟩
      case measure => simp [intOf]; omega
    · have e : j = n := by omega
      subst e
      have hD := hP.done Hn.out.symm
      go_wp2
      go_ret
      exact ⟨_, _, rfl, hD, hB⟩

set_option maxHeartbeats 1600000 in
set_option maxRecDepth 100000 in
theorem to_pushes2 {v : Value} {xs : List (List (Int × Int))} (w : World) (hn : Bd2 xs) (ha : Push2R w v xs) : Calls Try.prog 50 #[v] w (NewPost Push2E xs w) := by
  obtain ⟨A, ca, rfl, _, hA⟩ := ha
  obtain ⟨hn, hn2⟩ := hn
  obtain ⟨n, hn'⟩ : ∃ n, n = xs.length := ⟨_, rfl⟩
  have Hn := Lib.hid hn'
  have HA := Lib.hid hA
  have Hn2 := Lib.hid hn2
  rw [← hn'] at hn ⊢
  have hmk := run_make_row' (P := Try.prog) 44 94 (.slice none 0 0) 24 Try.underlying44 toInfo_pushes rfl .i64 .i64 n (by omega) (by omega)
  have hst : PartE w.heap.size w.heap.size n 94 (PushE w.heap.size) xs 0 [] [] (w.alloc (.cells (madeCells #[.slice none 0 0] n) 94)) := PartE.start (by unfold maxLen; omega)
  have Hst := Lib.hid hst
  clear hn' hA hst hn2
  go_enter Try.func50, Try.ntmps50
  go_wp2
  go_loopw [4] (fun i wr => ∃ (j : Nat) (us : List Value) (bss : List (List Nat)), j ≤ n ∧ i = .int .i64 j ∧ PartE w.heap.size w.heap.size n 94 (PushE w.heap.size) xs j us bss wr ∧ Below w.heap.size w wr) (fun i _ => n - (intOf i).toNat)
  case atStart => exact ⟨0, [], [], Nat.zero_le _, rfl, Hst.out, (Below.refl _ _).alloc (Nat.le_refl _) _⟩
  case round =>
    obtain ⟨j, us, bss, hj, rfl, hP, hB⟩ := hrel
    by_cases hlt : j < n
    · have hjx : j < xs.length := by rw [← Hn.out]; exact hlt
      obtain ⟨x, hx⟩ : ∃ x, xs[j]? = some x := ⟨_, List.getElem?_eq_getElem hjx⟩
      obtain ⟨A', u, rfl, hl, hc0, hu⟩ := HA.out j x hx
      have hc := (hB.cell (p := A'.add j) (by rw [add_block]; exact hl)).trans hc0
      have hs := hB.size
      have hsub := to_pushes wr (Hn2.out x (List.mem_of_getElem? hx)) (pushes_r.later hu hB)
      have Hsub := Lib.hid hsub
      have hgl := (hP.row.lt w.heap.size rfl).2
      have Hx := Lib.hid hx
      clear hjx hx hc0 hsub hu
      go_wp2_with (go_at_call 98; refine Hsub.out.mono ?_; rintro e w2 ⟨v2, cs, rfl, hv2, hb2⟩; have hrow2 := row_below hP.row hb2; have hf := hrow2.frozenAt j; obtain ⟨q, hq⟩ : ∃ q, w2.cell? ⟨w.heap.size, j, none⟩ = some q := (by
        have h1 := hrow2.cellAt j (by omega)
        have h2 := hrow2.1
        rw [h1, List.getElem?_eq_getElem (by rw [h2]; omega)]
        exact ⟨_, rfl⟩); obtain ⟨A2, c2, rfl⟩ := RowE.slice hv2)
      have hP2 := hP.next (E' := PushE w.heap.size) (push_ok _) Hn.out.symm hlt (Nat.le_refl _) Hx.out hb2 (pushes_base hs _ _ _ _ hv2) (fun b hb => ((push_ok _).lt hv2 b hb).1) ((push_ok _).nodup hv2)
      have hB2 := (hB.trans (hb2.mono hs)).setCell (p := ⟨w.heap.size, j, none⟩) (Nat.le_refl _) (.slice A2 x.length c2)
      go_roundw
      case rel => exact ⟨j + 1, _, _, by omega, by go_num, hP2, hB2⟩
      case measure => simp [intOf]; omega
    · have e : j = n := by omega
      subst e
      have hD := hP.done Hn.out.symm
      go_wp2
      go_ret
      exact ⟨_, _, rfl, hD, hB⟩

set_option maxHeartbeats 1600000 in
set_option maxRecDepth 100000 in
theorem to_ints3 {v : Value} {xs : List (List (List Int))} (w : World) (hn : Bd3 xs) (ha : Ints3R w v xs) : Calls Try.prog 37 #[v] w (NewPost Ints3E xs w) := by
  obtain ⟨A, ca, rfl, _, hA⟩ := ha
  obtain ⟨hn, hn2⟩ := hn
  obtain ⟨n, hn'⟩ : ∃ n, n = xs.length := ⟨_, rfl⟩
  have Hn := Lib.hid hn'
  have HA := Lib.hid hA
  have Hn2 := Lib.hid hn2
  rw [← hn'] at hn ⊢
  have hmk := run_make_row' (P := Try.prog) 26 38 (.slice none 0 0) 24 Try.underlying26 toInfo_ints2 rfl .i64 .i64 n (by omega) (by omega)
  have hst : PartE w.heap.size w.heap.size n 38 (Ints2E w.heap.size) xs 0 [] [] (w.alloc (.cells (madeCells #[.slice none 0 0] n) 38)) := PartE.start (by unfold maxLen; omega)
  have Hst := Lib.hid hst
  clear hn' hA hst hn2
  go_enter Try.func37, Try.ntmps37
  go_wp2
  go_loopw [4] (fun i wr => ∃ (j : Nat) (us : List Value) (bss : List (List Nat)), j ≤ n ∧ i = .int .i64 j ∧ PartE w.heap.size w.heap.size n 38 (Ints2E w.heap.size) xs j us bss wr ∧ Below w.heap.size w wr) (fun i _ => n - (intOf i).toNat)
  case atStart => exact ⟨0, [], [], Nat.zero_le _, rfl, Hst.out, (Below.refl _ _).alloc (Nat.le_refl _) _⟩
  case round =>
    obtain ⟨j, us, bss, hj, rfl, hP, hB⟩ := hrel
    by_cases hlt : j < n
    · have hjx : j < xs.length := by rw [← Hn.out]; exact hlt
      obtain ⟨x, hx⟩ : ∃ x, xs[j]? = some x := ⟨_, List.getElem?_eq_getElem hjx⟩
      obtain ⟨A', u, rfl, hl, hc0, hu⟩ := HA.out j x hx
      have hc := (hB.cell (p := A'.add j) (by rw [add_block]; exact hl)).trans hc0
      have hs := hB.size
      have hsub := to_ints2 wr (Hn2.out x (List.mem_of_getElem? hx)) (ints2_r.later hu hB)
      have Hsub := Lib.hid hsub
      have hgl := (hP.row.lt w.heap.size rfl).2
      have Hx := Lib.hid hx
      clear hjx hx hc0 hsub hu
      go_wp2_with (go_at_call 51; refine Hsub.out.mono ?_; rintro e w2 ⟨v2, cs, rfl, hv2, hb2⟩; have hrow2 := row_below hP.row hb2; have hf := hrow2.frozenAt j; obtain ⟨q, hq⟩ : ∃ q, w2.cell? ⟨w.heap.size, j, none⟩ = some q := (by
        have h1 := hrow2.cellAt j (by omega)
        have h2 := hrow2.1
        rw [h1, List.getElem?_eq_getElem (by rw [h2]; omega)]
        exact ⟨_, rfl⟩); obtain ⟨A2, c2, rfl⟩ := ManyE.slice hv2)
      have hP2 := hP.next (E' := Ints2E w.heap.size) (ints2_ok _) Hn.out.symm hlt (Nat.le_refl _) Hx.out hb2 (ints2_base hs _ _ _ _ hv2) (fun b hb => ((ints2_ok _).lt hv2 b hb).1) ((ints2_ok _).nodup hv2)
      have hB2 := (hB.trans (hb2.mono hs)).setCell (p := ⟨w.heap.size, j, none⟩) (Nat.le_refl _) (.slice A2 x.length c2)
      go_roundw
      case rel => exact ⟨j + 1, _, _, by omega, by go_num, hP2, hB2⟩
      case measure => simp [intOf]; omega
    · have e : j = n := by omega
      subst e
      have hD := hP.done Hn.out.symm
      go_wp2
      go_ret
      exact ⟨_, _, rfl, hD, hB⟩
end Go.Proofs.Yticmekdfdilcpaa
