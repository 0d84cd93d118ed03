/- Rows of links; the laws' own functions on them. -/
import Derived.Test.YtcboalnpbmnfcaaBox
import Derived.Test.YtcboalnpbmnfcaaConv
import Derived.Test.YtcboalnpbmnfcaaRows3
import Derived.Test.YtcboalnpbmnfcaaLkC
namespace Go.Proofs.Ytcboalnpbmnfcaa
open Go.RowKit Go.ChangeShapes Go.WideShapes Go.Deep
set_option linter.unusedVariables false

abbrev lkV (x : Int × Int × Int × ByteArray) : List Value := [.int .i64 x.1, .int .i64 x.2.1, .string x.2.2.2, .int .i64 x.2.2.1]
abbrev LkE (base : Nat) : EP (List (Int × Int × Int × ByteArray)) := RowE base 142 4 fun x => [.int .i64 x.1, .int .i64 x.2.1, .string x.2.2.2, .int .i64 x.2.2.1]
theorem lk_ok (base : Nat) : EP.Ok base (LkE base) := RowE.ok _ _ _ _
theorem LkE.cell' {base g n c : Nat} {w : World} {xs : List (Int × Int × Int × ByteArray)} {bs : List Nat} (h : LkE base w (.slice (some ⟨g, 0, none⟩) n c) xs bs) {j : Nat} {x : Int × Int × Int × ByteArray} (hx : xs[j]? = some x) :
    w.cell? ⟨g, j * 4, none⟩ = some (.int .i64 x.1) ∧ w.cell? ⟨g, j * 4 + 1, none⟩ = some (.int .i64 x.2.1) ∧ w.cell? ⟨g, j * 4 + 2, none⟩ = some (.string x.2.2.2) ∧ w.cell? ⟨g, j * 4 + 3, none⟩ = some (.int .i64 x.2.2.1) :=
  ⟨RowE.cell h (fun _ => rfl) (i := 0) hx rfl, RowE.cell h (fun _ => rfl) (i := 1) hx rfl, RowE.cell h (fun _ => rfl) (i := 2) hx rfl, RowE.cell h (fun _ => rfl) (i := 3) hx rfl⟩
theorem flat_set4 {α : Type} {f g h e : α → Value} : ∀ (xs : List α) (j : Nat) (y : α), ((((xs.flatMap fun x => [f x, g x, h x, e x]).set (j * 4) (f y)).set (j * 4 + 1) (g y)).set (j * 4 + 2) (h y)).set (j * 4 + 3) (e y) = (xs.set j y).flatMap fun x => [f x, g x, h x, e x] := by
  intro xs
  induction xs with
  | nil => intro j y; simp
  | cons x xs ih =>
    intro j y
    cases j with
    | zero => simp
    | succ j =>
      have e : (j + 1) * 4 = j * 4 + 4 := by omega
      rw [e]
      simp only [List.flatMap_cons, List.set_cons_succ]
      rw [← ih j y]
      simp
/-- The four cells of an element are written. -/
theorem RowE.put4 {α : Type} {base : Nat} {e : TypeId} {f k l m : α → Value} {w : World} {g n c : Nat} {xs : List α} {bs : List Nat} (h : RowE base e 4 (fun x => [f x, k x, l x, m x]) w (.slice (some ⟨g, 0, none⟩) n c) xs bs) (j : Nat) (y : α) :
    RowE base e 4 (fun x => [f x, k x, l x, m x]) ((((w.setCell ⟨g, j * 4, none⟩ (f y)).setCell ⟨g, j * 4 + 1, none⟩ (k y)).setCell ⟨g, j * 4 + 2, none⟩ (l y)).setCell ⟨g, j * 4 + 3, none⟩ (m y)) (.slice (some ⟨g, 0, none⟩) n c) (xs.set j y) bs ∧ Turned bs w ((((w.setCell ⟨g, j * 4, none⟩ (f y)).setCell ⟨g, j * 4 + 1, none⟩ (k y)).setCell ⟨g, j * 4 + 2, none⟩ (l y)).setCell ⟨g, j * 4 + 3, none⟩ (m y)) := by
  obtain rfl := h.len_
  obtain ⟨hr, rfl⟩ := h
  have h1 := hr.stored (j * 4) (f y)
  have h2 := h1.1.stored (j * 4 + 1) (k y)
  have h3 := h2.1.stored (j * 4 + 2) (l y)
  have h4 := h3.1.stored (j * 4 + 3) (m y)
  rw [flat_set4] at h4
  exact ⟨⟨by rw [List.length_set]; exact h4.1, rfl⟩, (((Turned.of_grown h1.2 (fun r hr => by cases hr; simp [Value.ownBlock])).trans (Turned.of_grown h2.2 (fun r hr => by cases hr; simp [Value.ownBlock]))).trans (Turned.of_grown h3.2 (fun r hr => by cases hr; simp [Value.ownBlock]))).trans (Turned.of_grown h4.2 (fun r hr => by cases hr; simp [Value.ownBlock]))⟩
theorem add_two' (a : Addr) : a.add 2 = ⟨a.block, a.off + 2, none⟩ := by unfold Addr.add; simp
theorem add_three' (a : Addr) : a.add 3 = ⟨a.block, a.off + 3, none⟩ := by unfold Addr.add; simp
theorem lks_base {b b' : Nat} (hb : b' ≤ b) (w : World) (v : Value) (x : List (Int × Int × Int × ByteArray)) (bs : List Nat) (h : LkE b w v x bs) : LkE b' w v x bs := ⟨row_base h.1 hb, h.2⟩
abbrev LkR0 : RP (List (Int × Int × Int × ByteArray)) := RowR 4 fun x => [.int .i64 x.1, .int .i64 x.2.1, .string x.2.2.2, .int .i64 x.2.2.1]
theorem lks_r0 : RP.Ok LkR0 := RowR.ok _ _
def WfLk (xs : List (Int × Int × Int × ByteArray)) : Prop := ∀ y ∈ xs, y.2.2.2.size ≤ maxLen
/-- Steps that came in. -/
def LkR : RP (List (Int × Int × Int × ByteArray)) := fun w v xs => LkR0 w v xs ∧ WfLk xs
theorem lks_r : RP.Ok LkR where
  later := fun h hb => ⟨lks_r0.later h.1 hb, h.2⟩
def szLk1 (x : Int × Int × Int × ByteArray) : Nat := x.2.2.2.size
def cntLk (xs : List (Int × Int × Int × ByteArray)) : Nat := xs.length + szL szLk1 xs
theorem bd_lks {xs : List (Int × Int × Int × ByteArray)} (h : cntLk xs ≤ 1048576) : Bd1 xs := by unfold cntLk at h; unfold Bd1; omega

theorem eq_lk (x z q : Int) (y : ByteArray) (w : World) : Calls Try.prog 187 #[.agg #[.int .i64 x, .int .i64 z, .string y, .int .i64 q], .agg #[.int .i64 x, .int .i64 z, .string y, .int .i64 q]] w (SeenPost (.bool true) w) := by
  go_enter Try.func187, Try.ntmps187
  go_wp2
  go_ret
  exact ⟨rfl, ((Below.refl _ _).alloc (Nat.le_refl _) _).alloc (by simp) _⟩

set_option maxHeartbeats 1600000 in
set_option maxRecDepth 100000 in
theorem eq_lks {base base' : Nat} {v v' : Value} {xs : List (Int × Int × Int × ByteArray)} {bs bs' : List Nat} (w : World) (hn : xs.length ≤ 1048576) (ha : LkE base w v xs bs) (hb : LkE base' w v' xs bs') :
    Calls Try.prog 175 #[v, v'] w (SeenPost (.bool true) w) := by
  obtain ⟨A, ca, rfl⟩ := ha.slice
  obtain ⟨B, cb, rfl⟩ := hb.slice
  obtain ⟨n, hn'⟩ : ∃ n, n = xs.length := ⟨_, rfl⟩
  have Hn := Lib.hid hn'
  rw [← hn'] at ha hb hn ⊢
  clear hn'
  go_enter Try.func175, Try.ntmps175
  go_wp2
  go_loopw [5] (fun i wr => ∃ k : Nat, k ≤ n ∧ i = .int .i64 k ∧ Below w.heap.size w wr) (fun i _ => n - (intOf i).toNat)
  case atStart => exact ⟨0, Nat.zero_le _, rfl, Below.refl _ _⟩
  case round =>
    obtain ⟨k, hk, rfl, hB⟩ := hrel
    by_cases hlt : k < n
    · have hkx : k < xs.length := by rw [← Hn.out]; exact hlt
      obtain ⟨g, rfl, hg, _⟩ := RowE.head ha hkx
      obtain ⟨g', rfl, hg', _⟩ := RowE.head hb hkx
      have hx : xs[k]? = some xs[k] := List.getElem?_eq_getElem hkx
      have hc0 := (hB.cell (p := ⟨g, k * 4, none⟩) hg).trans (LkE.cell' ha hx).1
      have hd0 := (hB.cell (p := ⟨g', k * 4, none⟩) hg').trans (LkE.cell' hb hx).1
      have hc1 := (hB.cell (p := ⟨g, k * 4 + 1, none⟩) hg).trans (LkE.cell' ha hx).2.1
      have hd1 := (hB.cell (p := ⟨g', k * 4 + 1, none⟩) hg').trans (LkE.cell' hb hx).2.1
      have hc2 := (hB.cell (p := ⟨g, k * 4 + 2, none⟩) hg).trans (LkE.cell' ha hx).2.2.1
      have hd2 := (hB.cell (p := ⟨g', k * 4 + 2, none⟩) hg').trans (LkE.cell' hb hx).2.2.1
      have hc3 := (hB.cell (p := ⟨g, k * 4 + 3, none⟩) hg).trans (LkE.cell' ha hx).2.2.2
      have hd3 := (hB.cell (p := ⟨g', k * 4 + 3, none⟩) hg').trans (LkE.cell' hb hx).2.2.2
      have hs := hB.size
      generalize xs[k] = x at hc0 hc1 hc2 hc3 hd0 hd1 hd2 hd3
      obtain ⟨x1, x3, x4, x2⟩ := x
      have hmx : Try.prog.follows .mixedOrders = true := by kernel_rfl
      clear hkx hx
      go_wp2
      go_region_with (go_at_call 187; refine (eq_lk _ _ _ _ _).mono ?_; rintro e w2 ⟨rfl, hb2⟩)
      all_goals
        go_wp2
        go_roundw
        case rel => exact ⟨k + 1, by omega, by go_num, by first | exact hB.drew.trans (hb2.mono hs) | exact hB.trans (hb2.mono hs)⟩
        case measure => simp [intOf]; omega
    · go_wp2
      go_ret
      exact ⟨rfl, hB⟩

theorem toInfo_lk : (Try.prog.info? 142).map (fun i => (i.zero, i.size, i.bytes)) = some (some (.agg #[.int .i64 0, .int .i64 0, .string ⟨#[]⟩, .int .i64 0]), 4, 40) := by kernel_rfl
theorem madeCells_lk (y z u v : Value) (n : Nat) : (madeCells #[y, z, u, v] (n * 4)).toList = (List.replicate n ()).flatMap fun _ => [y, z, u, v] := by
  have key : ∀ n, (madeCells #[y, z, u, v] (n * 4)).toList = (List.range (n * 4)).map fun j => if j % 4 = 0 then y else if j % 4 = 1 then z else if j % 4 = 2 then u else v := by
    intro n
    simp only [madeCells, Array.toList_map, Array.toList_range]
    refine List.map_congr_left fun j _ => ?_
    show #[y, z, u, v][j % 4]! = _
    obtain h | h | h | h : j % 4 = 0 ∨ j % 4 = 1 ∨ j % 4 = 2 ∨ j % 4 = 3 := by omega
    · rw [h]; rfl
    · rw [h]; rfl
    · rw [h]; rfl
    · rw [h]; rfl
  rw [key]
  induction n with
  | zero => rfl
  | succ n ih =>
    rw [show (n + 1) * 4 = n * 4 + 1 + 1 + 1 + 1 from by omega, List.range_succ, List.range_succ, List.range_succ, List.range_succ, List.replicate_succ']
    simp only [List.map_append, List.map_cons, List.map_nil, ih, List.flatMap_append, List.flatMap_cons, List.flatMap_nil, List.append_nil]
    rw [if_pos (by omega), if_neg (by omega), if_pos (by omega), if_neg (by omega), if_neg (by omega), if_pos (by omega), if_neg (by omega), if_neg (by omega), if_neg (by omega)]
    simp
theorem flat_unitL (n : Nat) (x : Int × Int × Int × ByteArray) : (List.replicate n x).flatMap (fun x => [Value.int .i64 x.1, .int .i64 x.2.1, .string x.2.2.2, .int .i64 x.2.2.1]) = (List.replicate n ()).flatMap fun _ => [Value.int .i64 x.1, .int .i64 x.2.1, .string x.2.2.2, .int .i64 x.2.2.1] := by
  induction n with
  | zero => rfl
  | succ n ih => rw [List.replicate_succ, List.replicate_succ, List.flatMap_cons, List.flatMap_cons, ih]
theorem lkE_made (w : World) (n : Nat) (hn : n ≤ maxLen) : LkE w.heap.size (w.alloc (.cells (madeCells #[.int .i64 0, .int .i64 0, .string ⟨#[]⟩, .int .i64 0] (n * 4)) 142)) (.slice (some ⟨w.heap.size, 0, none⟩) n n) (List.replicate n ((0, 0, 0, ⟨#[]⟩) : Int × Int × Int × ByteArray)) [w.heap.size] := by
  have h := World.ownsRow_lit (base := w.heap.size) (e := 142) (size := 4) w (madeCells #[.int .i64 0, .int .i64 0, .string ⟨#[]⟩, .int .i64 0] (n * 4)) n (Nat.le_refl _) hn (by simp [size_madeCells])
  rw [madeCells_lk] at h
  refine ⟨?_, rfl⟩
  rw [List.length_replicate, flat_unitL]
  exact h
theorem make_lks (n : Nat) (hn : n ≤ 1048576) (w : World) :
    (Instr.makeSlice 138 (.int .i64 (n : Int)) (.int .i64 (n : Int))).run Try.prog w = .ok (.slice (some ⟨w.heap.size, 0, none⟩) n n) (w.alloc (.cells (madeCells #[.int .i64 0, .int .i64 0, .string ⟨#[]⟩, .int .i64 0] (n * 4)) 142)) := by
  obtain ⟨i, hi, hzz⟩ := Option.map_eq_some_iff.1 toInfo_lk
  simp only [Prod.mk.injEq] at hzz
  obtain ⟨hz, hs, hb⟩ := hzz
  have hr := run_make (P := Try.prog) w 138 142 i _ Try.underlying138 hi hz .i64 .i64 n n (by omega) (Int.le_refl _) (by rw [hb]; omega) (by omega)
  simp only [Int.toNat_natCast, hs] at hr
  exact hr

set_option maxHeartbeats 1600000 in
set_option maxRecDepth 100000 in
theorem to_lks {v : Value} {xs : List (Int × Int × Int × ByteArray)} (w : World) (hn : Bd1 xs) (ha : LkR w v xs) : Calls Try.prog 174 #[v] w (NewPost LkE xs w) := by
  obtain ⟨⟨A, ca, rfl, _, hA⟩, _⟩ := ha
  unfold Bd1 at hn
  obtain ⟨n, hn'⟩ : ∃ n, n = xs.length := ⟨_, rfl⟩
  have Hn := Lib.hid hn'
  have HA := Lib.hid hA
  rw [← hn'] at hn ⊢
  have hmk := make_lks n hn
  have hst := lkE_made w n (by unfold maxLen; omega)
  have Hst := Lib.hid hst
  clear hn' hA hst
  go_enter Try.func174, Try.ntmps174
  go_wp2
  go_loopw [4] (fun i wr => ∃ j : Nat, j ≤ n ∧ i = .int .i64 j ∧ LkE w.heap.size wr (.slice (some ⟨w.heap.size, 0, none⟩) n n) (front xs (List.replicate n ((0, 0, 0, ⟨#[]⟩) : Int × Int × Int × ByteArray)) j) [w.heap.size] ∧ Below w.heap.size w wr) (fun i _ => n - (intOf i).toNat)
  case atStart => exact ⟨0, Nat.zero_le _, rfl, by rw [front_zero]; exact Hst.out, (Below.refl _ _).alloc (Nat.le_refl _) _⟩
  case round =>
    obtain ⟨j, hj, rfl, hE, hB⟩ := hrel
    have hrl : xs.length = (List.replicate n ((0, 0, 0, ⟨#[]⟩) : Int × Int × Int × ByteArray)).length := by rw [List.length_replicate]; exact Hn.out.symm
    by_cases hlt : j < n
    · have hjx : j < xs.length := by rw [← Hn.out]; exact hlt
      obtain ⟨x, hx⟩ : ∃ x, xs[j]? = some x := ⟨_, List.getElem?_eq_getElem hjx⟩
      obtain ⟨y, hy⟩ : ∃ y, (front xs (List.replicate n ((0, 0, 0, ⟨#[]⟩) : Int × Int × Int × ByteArray)) j)[j]? = some y := ⟨_, List.getElem?_eq_getElem (by rw [front_len _ _ hrl, ← hrl]; exact hjx)⟩
      obtain ⟨A', rfl, hl, hc0⟩ := HA.out j x 0 _ hx rfl
      obtain ⟨A'', hAA, _, hc1⟩ := HA.out j x 1 _ hx rfl
      cases hAA
      obtain ⟨A'', hAA, _, hc3⟩ := HA.out j x 2 _ hx rfl
      cases hAA
      obtain ⟨A'', hAA, _, hc5⟩ := HA.out j x 3 _ hx rfl
      cases hAA
      rw [add_zero'] at hc0
      have hc := (hB.cell (p := A'.add (j * 4)) (by rw [add_block]; exact hl)).trans hc0
      have hc2 := (hB.cell (p := (A'.add (j * 4)).add 1) (by rw [add_block, add_block]; exact hl)).trans hc1
      have hc4 := (hB.cell (p := (A'.add (j * 4)).add 2) (by rw [add_block, add_block]; exact hl)).trans hc3
      have hc6 := (hB.cell (p := (A'.add (j * 4)).add 3) (by rw [add_block, add_block]; exact hl)).trans hc5
      rw [add_one'] at hc2
      rw [add_two'] at hc4
      rw [add_three'] at hc6
      have hs := hB.size
      obtain ⟨x1, x3, x4, x2⟩ := x
      have hp0 := fun (W : World) (hb : Below wr.heap.size wr W) => RowE.put4 (f := fun x : Int × Int × Int × ByteArray => Value.int .i64 x.1) (k := fun x : Int × Int × Int × ByteArray => Value.int .i64 x.2.1) (l := fun x : Int × Int × Int × ByteArray => Value.string x.2.2.2) (m := fun x : Int × Int × Int × ByteArray => Value.int .i64 x.2.2.1) ((lk_ok _).later hE hb) j (x1, x3, x4, x2)
      rw [front_set _ _ hrl hx] at hp0
      have Hp := Lib.hid hp0
      have hcy := fun (W : World) (hb : Below wr.heap.size wr W) => LkE.cell' ((lk_ok _).later hE hb) hy
      have hfz := fun (W : World) (hb : Below wr.heap.size wr W) (q : Nat) => RowE.frozen ((lk_ok _).later hE hb) q
      have Hcy := Lib.hid hcy
      have Hfz := Lib.hid hfz
      clear hjx hx hy hc0 hc1 hc3 hc5 hrl hp0 hcy hfz
      go_wp2_with (go_at_call 186; refine (to_link _ _ _ _ _).mono ?_; rintro e w2 ⟨rfl, hb2⟩; obtain ⟨y1, y2, y3, y4⟩ := Hcy.out _ hb2; have z1 := Hfz.out _ hb2 (j * 4); have z2 := Hfz.out _ hb2 (j * 4 + 1); have z3 := Hfz.out _ hb2 (j * 4 + 2); have z4 := Hfz.out _ hb2 (j * 4 + 3))
      have hB2 := ((((hB.trans (hb2.mono hs)).setCell (p := ⟨w.heap.size, j * 4, none⟩) (Nat.le_refl _) (.int .i64 x1)).setCell (p := ⟨w.heap.size, j * 4 + 1, none⟩) (Nat.le_refl _) (.int .i64 x3)).setCell (p := ⟨w.heap.size, j * 4 + 2, none⟩) (Nat.le_refl _) (.string x2)).setCell (p := ⟨w.heap.size, j * 4 + 3, none⟩) (Nat.le_refl _) (.int .i64 x4)
      have hp := (Hp.out _ hb2).1
      go_roundw
      case rel => exact ⟨j + 1, by omega, by go_num, hp, hB2⟩
      case measure => simp [intOf]; omega
    · have e : j = n := by omega
      subst e
      rw [show j = (List.replicate j ((0, 0, 0, ⟨#[]⟩) : Int × Int × Int × ByteArray)).length from by rw [List.length_replicate]] at hE
      have hE2 := front_all _ _ hrl
      clear hrl
      go_wp2
      go_ret
      rw [List.length_replicate] at hE hE2
      rw [hE2] at hE
      exact ⟨_, _, rfl, hE, hB⟩

set_option maxHeartbeats 1600000 in
set_option maxRecDepth 100000 in
theorem sz_lks {v : Value} {xs : List (Int × Int × Int × ByteArray)} (left : Nat) (w : World) (hl : left ≤ 1048576) (ha : LkR w v xs) : Calls Try.prog 173 #[v, .int .i64 (left : Int)] w fun e w' => e = .returned (.int .i64 (dec left (cntLk xs))) ∧ Below w.heap.size w w' := by
  obtain ⟨⟨A, ca, rfl, hm, hA⟩, hwf⟩ := ha
  unfold maxLen at hm
  obtain ⟨n, hn'⟩ : ∃ n, n = xs.length := ⟨_, rfl⟩
  obtain ⟨t, ht⟩ : ∃ t, t = cntLk xs := ⟨_, rfl⟩
  have htn : t = n + szL szLk1 xs := by rw [ht, hn']; rfl
  have Hn := Lib.hid hn'
  have HA := Lib.hid hA
  have Ht := Lib.hid htn
  have Hwf := Lib.hid hwf
  rw [← hn'] at hm ⊢
  rw [← ht]
  clear hn' hA ht htn hwf
  by_cases h0 : n ≤ left
  · obtain ⟨q0, hq0⟩ : ∃ q0, q0 = left - n := ⟨_, rfl⟩
    have hq1 : q0 + n = left := by omega
    have hq2 : ((left : Int) - (n : Int)) = (q0 : Int) := by omega
    have hq3 : q0 ≤ 1048576 := by omega
    clear hq0
    have Hq1 := Lib.hid hq1
    have Hq2 := Lib.hid hq2
    clear hq1 hq2
    go_enter Try.func173, Try.ntmps173
    go_wp2
    go_loopw [1, 5] (fun l i wr => ∃ j q : Nat, j ≤ n ∧ i = .int .i64 j ∧ l = .int .i64 (q : Int) ∧ q ≤ 1048576 ∧ Hid (q + n + szL szLk1 (xs.take j) = left) ∧ Below w.heap.size w wr) (fun _ i _ => n - (intOf i).toNat)
    case atStart => exact ⟨0, q0, Nat.zero_le _, rfl, by rw [Hq2.out], hq3, by show _ = _; rw [← Hq1.out]; simp [szL], Below.refl _ _⟩
    case round =>
      obtain ⟨j, q, hj, rfl, rfl, hq, hsum, hB⟩ := hrel
      have hsz := hB.size
      by_cases hlt : j < n
      · have hjx : j < xs.length := by rw [← Hn.out]; exact hlt
        obtain ⟨x, hx⟩ : ∃ x, xs[j]? = some x := ⟨_, List.getElem?_eq_getElem hjx⟩
        obtain ⟨A', rfl, hbl, hc0⟩ := HA.out j x 0 _ hx rfl
        obtain ⟨A'', hAA, _, hc1⟩ := HA.out j x 1 _ hx rfl
        cases hAA
        obtain ⟨A'', hAA, _, hc3⟩ := HA.out j x 2 _ hx rfl
        cases hAA
        obtain ⟨A'', hAA, _, hc5⟩ := HA.out j x 3 _ hx rfl
        cases hAA
        rw [add_zero'] at hc0
        have hc := (hB.cell (p := A'.add (j * 4)) (by rw [add_block]; exact hbl)).trans hc0
        have hc2 := (hB.cell (p := (A'.add (j * 4)).add 1) (by rw [add_block, add_block]; exact hbl)).trans hc1
        have hc4 := (hB.cell (p := (A'.add (j * 4)).add 2) (by rw [add_block, add_block]; exact hbl)).trans hc3
        have hc6 := (hB.cell (p := (A'.add (j * 4)).add 3) (by rw [add_block, add_block]; exact hbl)).trans hc5
        rw [add_one'] at hc2
        rw [add_two'] at hc4
        rw [add_three'] at hc6
        have hss := szL_take_succ (sz := szLk1) hx
        have hle := szL_take_le (sz := szLk1) xs (j + 1)
        have hxm := Hwf.out x (List.mem_of_getElem? hx)
        obtain ⟨x1, x3, x4, x2⟩ := x
        obtain ⟨y, hy⟩ : ∃ y, y = x2.size := ⟨_, rfl⟩
        have hsub := fun W => sz_link x1 x3 x4 x2 q W hq (by unfold maxLen at hxm; omega)
        rw [← hy] at hsub
        rw [show szLk1 (x1, x3, x4, x2) = y from hy.symm] at hss
        have Hss := Lib.hid hss
        have Hle := Lib.hid hle
        clear hss hle hjx hx hy hc0 hc1 hc3 hc5 hxm
        by_cases hyq : y ≤ q
        · rw [dec_yes hyq] at hsub
          have Hsub := Lib.hid hsub
          obtain ⟨q', hq'⟩ : ∃ q', q' = q - y := ⟨_, rfl⟩
          have hq2 : q' + y = q := by omega
          rw [← hq'] at Hsub
          clear hsub hq'
          go_wp2_with (go_at_call 185; refine (Hsub.out _).mono ?_; rintro e w' ⟨rfl, hb2⟩)
          go_roundw
          case rel => exact ⟨j + 1, q', by omega, by go_num, rfl, by omega, by show _ = _; have := hsum.out; have := Hss.out; omega, hB.trans (hb2.mono hsz)⟩
          case measure => simp [intOf]; omega
        · rw [dec_no hyq] at hsub
          have Hsub := Lib.hid hsub
          have hno : ¬ t ≤ left := by
            have := hsum.out
            have := Hss.out
            have := Hle.out
            have := Ht.out
            omega
          have hd := Lib.hid (dec_no hno)
          clear hsub hyq hno
          go_wp2_with (go_at_call 185; refine (Hsub.out _).mono ?_; rintro e w' ⟨rfl, hb2⟩)
          go_ret
          exact ⟨by rw [hd.out]; rfl, hB.trans (hb2.mono hsz)⟩
      · have e : j = n := by omega
        subst e
        have hall : q + t = left := by
          have h1 := hsum.out
          rw [Hn.out, List.take_length] at h1
          have := Ht.out
          have := Hn.out
          omega
        have hv : ((left - t : Nat) : Int) = (q : Int) := by omega
        have hd := Lib.hid ((dec_yes (left := left) (n := t) (by omega)).trans hv)
        clear hall hv hsum
        go_wp2
        go_ret
        exact ⟨by rw [hd.out]; rfl, hB⟩
  · have h' : left < n := by omega
    have hno : ¬ t ≤ left := by have := Ht.out; omega
    rw [dec_no hno]
    clear h0 hno
    go_enter Try.func173, Try.ntmps173
    go_wp2
    go_ret
    exact ⟨rfl, Below.refl _ _⟩

section
variable {H : Type} {enc : TypeId × Value → H} {w : World} {held : Bool}
theorem read_lks {n : Nat} {v : Value} {x : DataW H × List MemPlace} (h : DataW.trod enc Try.prog w 0 (fun _ => true) held n 184 [v] = some x) : ∃ y, LkR w v y ∧ WfLk y := by
  obtain ⟨y, h1, h2⟩ := open_row (en := fun x : Int × Int × Int × ByteArray => [.int .i64 x.1, .int .i64 x.2.1, .string x.2.2.2, .int .i64 x.2.2.1]) (wf := fun y => y.2.2.2.size ≤ maxLen) Try.underlying184 cells_lk (fun _ _ _ h => by obtain ⟨k, a, t, s, hcs, _, hw⟩ := read_link h; exact ⟨(k, a, t, s), hcs, hw⟩) h
  exact ⟨y, ⟨h1, h2⟩, h2⟩
set_option maxRecDepth 100000 in
theorem open_lks {r : Reach} {b0 : Nat} {v : Value} {d : DataW H} {p : List MemPlace} (hv : Value.okWide Try.prog w r b0 184 v) (h : DataW.Trod enc Try.prog w 0 (fun _ => true) held 184 v d p) : ∃ x, LkR w v x ∧ WfLk x := by
  obtain ⟨la, ll, lc, rfl⟩ := okWide_slice Try.underlying184 hv
  obtain ⟨m, hm⟩ := h
  exact read_lks hm
end

end Go.Proofs.Ytcboalnpbmnfcaa
