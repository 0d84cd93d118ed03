/- Moves at calls that write: rows of two numbers and a text; the laws' own functions on them. -/
import Derived.Test.YtmkamodmnplclaaBox
import Derived.Test.YtmkamodmnplclaaConv
import Derived.Test.YtmkamodmnplclaaRows3
import Derived.Test.YtmkamodmnplclaaText
import Derived.Test.YtmkamodmnplclaaOm
namespace Go.Proofs.Ytmkamodmnplclaa
open Go.RowKit Go.ChangeShapes Go.WideShapes Go.Deep
set_option linter.unusedVariables false

abbrev opV (x : Int × Int × ByteArray) : List Value := [.int .i64 x.1, .int .i64 x.2.1, .string x.2.2]
abbrev OpE (base : Nat) : EP (List (Int × Int × ByteArray)) := RowE base 75 3 fun x => [.int .i64 x.1, .int .i64 x.2.1, .string x.2.2]
theorem op_ok (base : Nat) : EP.Ok base (OpE base) := RowE.ok _ _ _ _
theorem OpE.cell' {base g n c : Nat} {w : World} {xs : List (Int × Int × ByteArray)} {bs : List Nat} (h : OpE base w (.slice (some ⟨g, 0, none⟩) n c) xs bs) {j : Nat} {x : Int × Int × ByteArray} (hx : xs[j]? = some x) :
    w.cell? ⟨g, j * 3, none⟩ = some (.int .i64 x.1) ∧ w.cell? ⟨g, j * 3 + 1, none⟩ = some (.int .i64 x.2.1) ∧ w.cell? ⟨g, j * 3 + 2, none⟩ = some (.string x.2.2) :=
  ⟨RowE.cell h (fun _ => rfl) (i := 0) hx rfl, RowE.cell h (fun _ => rfl) (i := 1) hx rfl, RowE.cell h (fun _ => rfl) (i := 2) hx rfl⟩
theorem flat_set3 {α : Type} {f g h : α → Value} : ∀ (xs : List α) (j : Nat) (y : α), (((xs.flatMap fun x => [f x, g x, h x]).set (j * 3) (f y)).set (j * 3 + 1) (g y)).set (j * 3 + 2) (h y) = (xs.set j y).flatMap fun x => [f x, g x, h x] := by
  intro xs
  induction xs with
  | nil => intro j y; simp
  | cons x xs ih =>
    intro j y
    cases j with
    | zero => simp
    | succ j =>
      have e : (j + 1) * 3 = j * 3 + 3 := by omega
      rw [e]
      simp only [List.flatMap_cons, List.set_cons_succ]
      rw [← ih j y]
      simp
/-- The three cells of an element are written. -/
theorem RowE.put3 {α : Type} {base : Nat} {e : TypeId} {f k l : α → Value} {w : World} {g n c : Nat} {xs : List α} {bs : List Nat} (h : RowE base e 3 (fun x => [f x, k x, l x]) w (.slice (some ⟨g, 0, none⟩) n c) xs bs) (j : Nat) (y : α) :
    RowE base e 3 (fun x => [f x, k x, l x]) (((w.setCell ⟨g, j * 3, none⟩ (f y)).setCell ⟨g, j * 3 + 1, none⟩ (k y)).setCell ⟨g, j * 3 + 2, none⟩ (l y)) (.slice (some ⟨g, 0, none⟩) n c) (xs.set j y) bs ∧ Turned bs w (((w.setCell ⟨g, j * 3, none⟩ (f y)).setCell ⟨g, j * 3 + 1, none⟩ (k y)).setCell ⟨g, j * 3 + 2, none⟩ (l y)) := by
  obtain rfl := h.len_
  obtain ⟨hr, rfl⟩ := h
  have h1 := hr.stored (j * 3) (f y)
  have h2 := h1.1.stored (j * 3 + 1) (k y)
  have h3 := h2.1.stored (j * 3 + 2) (l y)
  rw [flat_set3] at h3
  exact ⟨⟨by rw [List.length_set]; exact h3.1, rfl⟩, ((Turned.of_grown h1.2 (fun r hr => by cases hr; simp [Value.ownBlock])).trans (Turned.of_grown h2.2 (fun r hr => by cases hr; simp [Value.ownBlock]))).trans (Turned.of_grown h3.2 (fun r hr => by cases hr; simp [Value.ownBlock]))⟩
theorem add_two' (a : Addr) : a.add 2 = ⟨a.block, a.off + 2, none⟩ := by unfold Addr.add; simp
theorem ops_base {b b' : Nat} (hb : b' ≤ b) (w : World) (v : Value) (x : List (Int × Int × ByteArray)) (bs : List Nat) (h : OpE b w v x bs) : OpE b' w v x bs := ⟨row_base h.1 hb, h.2⟩
abbrev OpR0 : RP (List (Int × Int × ByteArray)) := RowR 3 fun x => [.int .i64 x.1, .int .i64 x.2.1, .string x.2.2]
theorem ops_r0 : RP.Ok OpR0 := RowR.ok _ _
def WfOp (xs : List (Int × Int × ByteArray)) : Prop := ∀ y ∈ xs, y.2.2.size ≤ maxLen
/-- Steps that came in. -/
def OpR : RP (List (Int × Int × ByteArray)) := fun w v xs => OpR0 w v xs ∧ WfOp xs
theorem ops_r : RP.Ok OpR where
  later := fun h hb => ⟨ops_r0.later h.1 hb, h.2⟩
def lenOp (xs : List (Int × Int × ByteArray)) : Nat := 3 * xs.length
def szOp1 (x : Int × Int × ByteArray) : Nat := x.2.2.size
def cntOp (xs : List (Int × Int × ByteArray)) : Nat := xs.length + szL szOp1 xs
def mkOp (k : Nat) (xs : List (Int × Int × ByteArray)) : List (Int × Int × ByteArray) := (List.range xs.length).map fun i : Nat => ((k : Int) + 3 * (i : Int), (k : Int) + 3 * (i : Int) + 1, mtS (k + 3 * i + 2))
theorem mkOp_len (k : Nat) (xs : List (Int × Int × ByteArray)) : (mkOp k xs).length = xs.length := by simp [mkOp]
theorem mkOp_at (k : Nat) (xs : List (Int × Int × ByteArray)) (j : Nat) (h : j < xs.length) : (mkOp k xs)[j]? = some ((k : Int) + 3 * (j : Int), (k : Int) + 3 * (j : Int) + 1, mtS (k + 3 * j + 2)) := by simp [mkOp, h]
theorem le_ops (xs : List (Int × Int × ByteArray)) : lenOp xs ≤ 3 * cntOp xs := by unfold lenOp cntOp; omega
theorem bd_ops {xs : List (Int × Int × ByteArray)} (h : cntOp xs ≤ 1048576) : Bd1 xs := by unfold cntOp at h; unfold Bd1; omega

theorem eq_op (x z : Int) (y : ByteArray) (w : World) : Calls Try.prog 135 #[.agg #[.int .i64 x, .int .i64 z, .string y], .agg #[.int .i64 x, .int .i64 z, .string y]] w (SeenPost (.bool true) w) := by
  go_enter Try.func135, Try.ntmps135
  go_wp2
  go_ret
  exact ⟨rfl, ((Below.refl _ _).alloc (Nat.le_refl _) _).alloc (by simp) _⟩

set_option maxHeartbeats 1600000 in
set_option maxRecDepth 100000 in
theorem eq_ops {base base' : Nat} {v v' : Value} {xs : List (Int × Int × ByteArray)} {bs bs' : List Nat} (w : World) (hn : xs.length ≤ 1048576) (ha : OpE base w v xs bs) (hb : OpE base' w v' xs bs') :
    Calls Try.prog 94 #[v, v'] w (SeenPost (.bool true) w) := by
  obtain ⟨A, ca, rfl⟩ := ha.slice
  obtain ⟨B, cb, rfl⟩ := hb.slice
  obtain ⟨n, hn'⟩ : ∃ n, n = xs.length := ⟨_, rfl⟩
  have Hn := Lib.hid hn'
  rw [← hn'] at ha hb hn ⊢
  clear hn'
  go_enter Try.func94, Try.ntmps94
  go_wp2
  go_loopw [5] (fun i wr => ∃ k : Nat, k ≤ n ∧ i = .int .i64 k ∧ Below w.heap.size w wr) (fun i _ => n - (intOf i).toNat)
  case atStart => exact ⟨0, Nat.zero_le _, rfl, Below.refl _ _⟩
  case round =>
    obtain ⟨k, hk, rfl, hB⟩ := hrel
    by_cases hlt : k < n
    · have hkx : k < xs.length := by rw [← Hn.out]; exact hlt
      obtain ⟨g, rfl, hg, _⟩ := RowE.head ha hkx
      obtain ⟨g', rfl, hg', _⟩ := RowE.head hb hkx
      have hx : xs[k]? = some xs[k] := List.getElem?_eq_getElem hkx
      have hc1 := (hB.cell (p := ⟨g, k * 3, none⟩) hg).trans (OpE.cell' ha hx).1
      have hc2 := (hB.cell (p := ⟨g', k * 3, none⟩) hg').trans (OpE.cell' hb hx).1
      have hc3 := (hB.cell (p := ⟨g, k * 3 + 1, none⟩) hg).trans (OpE.cell' ha hx).2.1
      have hc4 := (hB.cell (p := ⟨g', k * 3 + 1, none⟩) hg').trans (OpE.cell' hb hx).2.1
      have hc5 := (hB.cell (p := ⟨g, k * 3 + 2, none⟩) hg).trans (OpE.cell' ha hx).2.2
      have hc6 := (hB.cell (p := ⟨g', k * 3 + 2, none⟩) hg').trans (OpE.cell' hb hx).2.2
      have hs := hB.size
      generalize xs[k] = x at hc1 hc2 hc3 hc4 hc5 hc6
      obtain ⟨x1, x3, x2⟩ := x
      have hmx : Try.prog.follows .mixedOrders = true := by kernel_rfl
      clear hkx hx
      go_wp2
      go_region_with (go_at_call 135; refine (eq_op _ _ _ _).mono ?_; rintro e w2 ⟨rfl, hb2⟩)
      all_goals
        go_wp2
        go_roundw
        case rel => exact ⟨k + 1, by omega, by go_num, by first | exact hB.drew.trans (hb2.mono hs) | exact hB.trans (hb2.mono hs)⟩
        case measure => simp [intOf]; omega
    · go_wp2
      go_ret
      exact ⟨rfl, hB⟩

theorem to_op (x z : Int) (y : ByteArray) (w : World) : Calls Try.prog 141 #[.agg #[.int .i64 x, .int .i64 z, .string y]] w fun e w' => e = .returned (.agg #[.int .i64 x, .int .i64 z, .string y]) ∧ Below w.heap.size w w' := by
  have hB := (((Below.refl w.heap.size w).alloc (Nat.le_refl _) (.cells #[.int .i64 x, .int .i64 z, .string y] 166)).alloc (by simp) (.cells #[.int .i64 x, .int .i64 z, .string y] 75)).alloc (by simp; omega) (.cells #[.int .i64 x, .int .i64 z, .string y] 75)
  go_enter Try.func141, Try.ntmps141
  go_wp2
  exact bodyPost_ret (v := .agg #[.int .i64 x, .int .i64 z, .string y]) (by simp [results, Try.results141, go_sem]) rfl ⟨rfl, hB⟩

theorem toInfo_op : (Try.prog.info? 75).map (fun i => (i.zero, i.size, i.bytes)) = some (some (.agg #[.int .i64 0, .int .i64 0, .string ⟨#[]⟩]), 3, 32) := by kernel_rfl
theorem madeCells_op (y z u : Value) (n : Nat) : (madeCells #[y, z, u] (n * 3)).toList = (List.replicate n ()).flatMap fun _ => [y, z, u] := by
  have key : ∀ n, (madeCells #[y, z, u] (n * 3)).toList = (List.range (n * 3)).map fun j => if j % 3 = 0 then y else if j % 3 = 1 then z else u := by
    intro n
    simp only [madeCells, Array.toList_map, Array.toList_range]
    refine List.map_congr_left fun j _ => ?_
    show #[y, z, u][j % 3]! = _
    obtain h | h | h : j % 3 = 0 ∨ j % 3 = 1 ∨ j % 3 = 2 := by omega
    · rw [h]; rfl
    · rw [h]; rfl
    · rw [h]; rfl
  rw [key]
  induction n with
  | zero => rfl
  | succ n ih =>
    rw [show (n + 1) * 3 = n * 3 + 1 + 1 + 1 from by omega, List.range_succ, List.range_succ, List.range_succ, List.replicate_succ']
    simp only [List.map_append, List.map_cons, List.map_nil, ih, List.flatMap_append, List.flatMap_cons, List.flatMap_nil, List.append_nil]
    rw [if_pos (by omega), if_neg (by omega), if_pos (by omega), if_neg (by omega), if_neg (by omega)]
    simp
theorem flat_unitP (n : Nat) (x : Int × Int × ByteArray) : (List.replicate n x).flatMap (fun x => [Value.int .i64 x.1, .int .i64 x.2.1, .string x.2.2]) = (List.replicate n ()).flatMap fun _ => [Value.int .i64 x.1, .int .i64 x.2.1, .string x.2.2] := by
  induction n with
  | zero => rfl
  | succ n ih => rw [List.replicate_succ, List.replicate_succ, List.flatMap_cons, List.flatMap_cons, ih]
theorem opE_made (w : World) (n : Nat) (hn : n ≤ maxLen) : OpE w.heap.size (w.alloc (.cells (madeCells #[.int .i64 0, .int .i64 0, .string ⟨#[]⟩] (n * 3)) 75)) (.slice (some ⟨w.heap.size, 0, none⟩) n n) (List.replicate n ((0, 0, ⟨#[]⟩) : Int × Int × ByteArray)) [w.heap.size] := by
  have h := World.ownsRow_lit (base := w.heap.size) (e := 75) (size := 3) w (madeCells #[.int .i64 0, .int .i64 0, .string ⟨#[]⟩] (n * 3)) n (Nat.le_refl _) hn (by simp [size_madeCells])
  rw [madeCells_op] at h
  refine ⟨?_, rfl⟩
  rw [List.length_replicate, flat_unitP]
  exact h
theorem make_ops (n : Nat) (hn : n ≤ 1048576) (w : World) :
    (Instr.makeSlice 76 (.int .i64 (n : Int)) (.int .i64 (n : Int))).run Try.prog w = .ok (.slice (some ⟨w.heap.size, 0, none⟩) n n) (w.alloc (.cells (madeCells #[.int .i64 0, .int .i64 0, .string ⟨#[]⟩] (n * 3)) 75)) := by
  obtain ⟨i, hi, hzz⟩ := Option.map_eq_some_iff.1 toInfo_op
  simp only [Prod.mk.injEq] at hzz
  obtain ⟨hz, hs, hb⟩ := hzz
  have hr := run_make (P := Try.prog) w 76 75 i _ Try.underlying76 hi hz .i64 .i64 n n (by omega) (Int.le_refl _) (by rw [hb]; omega) (by omega)
  simp only [Int.toNat_natCast, hs] at hr
  exact hr

set_option maxHeartbeats 1600000 in
set_option maxRecDepth 100000 in
theorem to_ops {v : Value} {xs : List (Int × Int × ByteArray)} (w : World) (hn : Bd1 xs) (ha : OpR w v xs) : Calls Try.prog 118 #[v] w (NewPost OpE xs w) := by
  obtain ⟨⟨A, ca, rfl, _, hA⟩, _⟩ := ha
  unfold Bd1 at hn
  obtain ⟨n, hn'⟩ : ∃ n, n = xs.length := ⟨_, rfl⟩
  have Hn := Lib.hid hn'
  have HA := Lib.hid hA
  rw [← hn'] at hn ⊢
  have hmk := make_ops n hn
  have hst := opE_made w n (by unfold maxLen; omega)
  have Hst := Lib.hid hst
  clear hn' hA hst
  go_enter Try.func118, Try.ntmps118
  go_wp2
  go_loopw [4] (fun i wr => ∃ j : Nat, j ≤ n ∧ i = .int .i64 j ∧ OpE w.heap.size wr (.slice (some ⟨w.heap.size, 0, none⟩) n n) (front xs (List.replicate n ((0, 0, ⟨#[]⟩) : Int × Int × ByteArray)) j) [w.heap.size] ∧ Below w.heap.size w wr) (fun i _ => n - (intOf i).toNat)
  case atStart => exact ⟨0, Nat.zero_le _, rfl, by rw [front_zero]; exact Hst.out, (Below.refl _ _).alloc (Nat.le_refl _) _⟩
  case round =>
    obtain ⟨j, hj, rfl, hE, hB⟩ := hrel
    have hrl : xs.length = (List.replicate n ((0, 0, ⟨#[]⟩) : Int × Int × ByteArray)).length := by rw [List.length_replicate]; exact Hn.out.symm
    by_cases hlt : j < n
    · have hjx : j < xs.length := by rw [← Hn.out]; exact hlt
      obtain ⟨x, hx⟩ : ∃ x, xs[j]? = some x := ⟨_, List.getElem?_eq_getElem hjx⟩
      obtain ⟨y, hy⟩ : ∃ y, (front xs (List.replicate n ((0, 0, ⟨#[]⟩) : Int × Int × ByteArray)) j)[j]? = some y := ⟨_, List.getElem?_eq_getElem (by rw [front_len _ _ hrl, ← hrl]; exact hjx)⟩
      obtain ⟨A', rfl, hl, hc0⟩ := HA.out j x 0 _ hx rfl
      obtain ⟨A'', hAA, _, hc1⟩ := HA.out j x 1 _ hx rfl
      cases hAA
      obtain ⟨A'', hAA, _, hc3⟩ := HA.out j x 2 _ hx rfl
      cases hAA
      rw [add_zero'] at hc0
      have hc := (hB.cell (p := A'.add (j * 3)) (by rw [add_block]; exact hl)).trans hc0
      have hc2 := (hB.cell (p := (A'.add (j * 3)).add 1) (by rw [add_block, add_block]; exact hl)).trans hc1
      have hc4 := (hB.cell (p := (A'.add (j * 3)).add 2) (by rw [add_block, add_block]; exact hl)).trans hc3
      rw [add_one'] at hc2
      rw [add_two'] at hc4
      have hs := hB.size
      obtain ⟨x1, x3, x2⟩ := x
      have hp0 := fun (W : World) (hb : Below wr.heap.size wr W) => RowE.put3 (f := fun x : Int × Int × ByteArray => Value.int .i64 x.1) (k := fun x : Int × Int × ByteArray => Value.int .i64 x.2.1) (l := fun x : Int × Int × ByteArray => Value.string x.2.2) ((op_ok _).later hE hb) j (x1, x3, x2)
      rw [front_set _ _ hrl hx] at hp0
      have Hp := Lib.hid hp0
      have hcy := fun (W : World) (hb : Below wr.heap.size wr W) => OpE.cell' ((op_ok _).later hE hb) hy
      have hfz := fun (W : World) (hb : Below wr.heap.size wr W) (q : Nat) => RowE.frozen ((op_ok _).later hE hb) q
      have Hcy := Lib.hid hcy
      have Hfz := Lib.hid hfz
      clear hjx hx hy hc0 hc1 hc3 hrl hp0 hcy hfz
      go_wp2_with (go_at_call 141; refine (to_op _ _ _ _).mono ?_; rintro e w2 ⟨rfl, hb2⟩; obtain ⟨y1, y2, y3⟩ := Hcy.out _ hb2; have z1 := Hfz.out _ hb2 (j * 3); have z2 := Hfz.out _ hb2 (j * 3 + 1); have z3 := Hfz.out _ hb2 (j * 3 + 2))
      have hB2 := (((hB.trans (hb2.mono hs)).setCell (p := ⟨w.heap.size, j * 3, none⟩) (Nat.le_refl _) (.int .i64 x1)).setCell (p := ⟨w.heap.size, j * 3 + 1, none⟩) (Nat.le_refl _) (.int .i64 x3)).setCell (p := ⟨w.heap.size, j * 3 + 2, none⟩) (Nat.le_refl _) (.string x2)
      have hp := (Hp.out _ hb2).1
      go_roundw
      case rel => exact ⟨j + 1, by omega, by go_num, hp, hB2⟩
      case measure => simp [intOf]; omega
    · have e : j = n := by omega
      subst e
      rw [show j = (List.replicate j ((0, 0, ⟨#[]⟩) : Int × Int × ByteArray)).length from by rw [List.length_replicate]] at hE
      have hE2 := front_all _ _ hrl
      clear hrl
      go_wp2
      go_ret
      rw [List.length_replicate] at hE hE2
      rw [hE2] at hE
      exact ⟨_, _, rfl, hE, hB⟩

theorem sz_op (x z : Int) (y : ByteArray) (q : Nat) (w : World) (hq : q ≤ 1048576) (hy : y.size ≤ maxLen) : Calls Try.prog 139 #[.agg #[.int .i64 x, .int .i64 z, .string y], .int .i64 (q : Int)] w fun e w' => e = .returned (.int .i64 (dec q y.size)) ∧ Below w.heap.size w w' := by
  have hB := (Below.refl w.heap.size w).alloc (Nat.le_refl _) (.cells #[.int .i64 x, .int .i64 z, .string y] 166)
  unfold maxLen at hy
  by_cases h : y.size ≤ q
  · rw [dec_yes h]
    go_enter Try.func139, Try.ntmps139
    go_wp2
    go_ret
    exact ⟨by go_num, hB⟩
  · rw [dec_no h]
    have h' : q < y.size := by omega
    clear h
    go_enter Try.func139, Try.ntmps139
    go_wp2
    go_ret
    exact ⟨rfl, hB⟩

set_option maxHeartbeats 1600000 in
set_option maxRecDepth 100000 in
theorem sz_ops {v : Value} {xs : List (Int × Int × ByteArray)} (left : Nat) (w : World) (hl : left ≤ 1048576) (ha : OpR w v xs) : Calls Try.prog 113 #[v, .int .i64 (left : Int)] w fun e w' => e = .returned (.int .i64 (dec left (cntOp xs))) ∧ Below w.heap.size w w' := by
  obtain ⟨⟨A, ca, rfl, hm, hA⟩, hwf⟩ := ha
  unfold maxLen at hm
  obtain ⟨n, hn'⟩ : ∃ n, n = xs.length := ⟨_, rfl⟩
  obtain ⟨t, ht⟩ : ∃ t, t = cntOp xs := ⟨_, rfl⟩
  have htn : t = n + szL szOp1 xs := by rw [ht, hn']; rfl
  have Hn := Lib.hid hn'
  have HA := Lib.hid hA
  have Ht := Lib.hid htn
  have Hwf := Lib.hid hwf
  rw [← hn'] at hm ⊢
  rw [← ht]
  clear hn' hA ht htn hwf
  by_cases h0 : n ≤ left
  · obtain ⟨q0, hq0⟩ : ∃ q0, q0 = left - n := ⟨_, rfl⟩
    have hq1 : q0 + n = left := by omega
    have hq2 : ((left : Int) - (n : Int)) = (q0 : Int) := by omega
    have hq3 : q0 ≤ 1048576 := by omega
    clear hq0
    have Hq1 := Lib.hid hq1
    have Hq2 := Lib.hid hq2
    clear hq1 hq2
    go_enter Try.func113, Try.ntmps113
    go_wp2
    go_loopw [1, 5] (fun l i wr => ∃ j q : Nat, j ≤ n ∧ i = .int .i64 j ∧ l = .int .i64 (q : Int) ∧ q ≤ 1048576 ∧ Hid (q + n + szL szOp1 (xs.take j) = left) ∧ Below w.heap.size w wr) (fun _ i _ => n - (intOf i).toNat)
    case atStart => exact ⟨0, q0, Nat.zero_le _, rfl, by rw [Hq2.out], hq3, by show _ = _; rw [← Hq1.out]; simp [szL], Below.refl _ _⟩
    case round =>
      obtain ⟨j, q, hj, rfl, rfl, hq, hsum, hB⟩ := hrel
      have hsz := hB.size
      by_cases hlt : j < n
      · have hjx : j < xs.length := by rw [← Hn.out]; exact hlt
        obtain ⟨x, hx⟩ : ∃ x, xs[j]? = some x := ⟨_, List.getElem?_eq_getElem hjx⟩
        obtain ⟨A', rfl, hbl, hc0⟩ := HA.out j x 0 _ hx rfl
        obtain ⟨A'', hAA, _, hc1⟩ := HA.out j x 1 _ hx rfl
        cases hAA
        obtain ⟨A'', hAA, _, hc3⟩ := HA.out j x 2 _ hx rfl
        cases hAA
        rw [add_zero'] at hc0
        have hc := (hB.cell (p := A'.add (j * 3)) (by rw [add_block]; exact hbl)).trans hc0
        have hc2 := (hB.cell (p := (A'.add (j * 3)).add 1) (by rw [add_block, add_block]; exact hbl)).trans hc1
        have hc4 := (hB.cell (p := (A'.add (j * 3)).add 2) (by rw [add_block, add_block]; exact hbl)).trans hc3
        rw [add_one'] at hc2
        rw [add_two'] at hc4
        have hss := szL_take_succ (sz := szOp1) hx
        have hle := szL_take_le (sz := szOp1) xs (j + 1)
        have hxm := Hwf.out x (List.mem_of_getElem? hx)
        obtain ⟨x1, x3, x2⟩ := x
        obtain ⟨y, hy⟩ : ∃ y, y = x2.size := ⟨_, rfl⟩
        have hsub := fun W => sz_op x1 x3 x2 q W hq hxm
        rw [← hy] at hsub
        rw [show szOp1 (x1, x3, x2) = y from hy.symm] at hss
        have Hss := Lib.hid hss
        have Hle := Lib.hid hle
        clear hss hle hjx hx hy hc0 hc1 hc3 hxm
        by_cases hyq : y ≤ q
        · rw [dec_yes hyq] at hsub
          have Hsub := Lib.hid hsub
          obtain ⟨q', hq'⟩ : ∃ q', q' = q - y := ⟨_, rfl⟩
          have hq2 : q' + y = q := by omega
          rw [← hq'] at Hsub
          clear hsub hq'
          go_wp2_with (go_at_call 139; refine (Hsub.out _).mono ?_; rintro e w' ⟨rfl, hb2⟩)
          go_roundw
          case rel => exact ⟨j + 1, q', by omega, by go_num, rfl, by omega, by show _ = _; have := hsum.out; have := Hss.out; omega, hB.trans (hb2.mono hsz)⟩
          case measure => simp [intOf]; omega
        · rw [dec_no hyq] at hsub
          have Hsub := Lib.hid hsub
          have hno : ¬ t ≤ left := by
            have := hsum.out
            have := Hss.out
            have := Hle.out
            have := Ht.out
            omega
          have hd := Lib.hid (dec_no hno)
          clear hsub hyq hno
          go_wp2_with (go_at_call 139; refine (Hsub.out _).mono ?_; rintro e w' ⟨rfl, hb2⟩)
          go_ret
          exact ⟨by rw [hd.out]; rfl, hB.trans (hb2.mono hsz)⟩
      · have e : j = n := by omega
        subst e
        have hall : q + t = left := by
          have h1 := hsum.out
          rw [Hn.out, List.take_length] at h1
          have := Ht.out
          have := Hn.out
          omega
        have hv : ((left - t : Nat) : Int) = (q : Int) := by omega
        have hd := Lib.hid ((dec_yes (left := left) (n := t) (by omega)).trans hv)
        clear hall hv hsum
        go_wp2
        go_ret
        exact ⟨by rw [hd.out]; rfl, hB⟩
  · have h' : left < n := by omega
    have hno : ¬ t ≤ left := by have := Ht.out; omega
    rw [dec_no hno]
    clear h0 hno
    go_enter Try.func113, Try.ntmps113
    go_wp2
    go_ret
    exact ⟨rfl, Below.refl _ _⟩

theorem cells_op : Try.prog.cellsOf 166 = 3 := by kernel_rfl
theorem cells_ops : Try.prog.cellsOf 139 = 1 := by kernel_rfl
section
variable {H : Type} {enc : TypeId × Value → H} {w : World} {held : Bool}
set_option maxRecDepth 100000 in
theorem read_op {n : Nat} {cs : List Value} {x : DataW H × List MemPlace} (h : DataW.trod enc Try.prog w 0 (fun _ => true) held n 166 cs = some x) : ∃ y : Int × Int × ByteArray, cs = [.int .i64 y.1, .int .i64 y.2.1, .string y.2.2] ∧ y.2.2.size ≤ maxLen := by
  obtain ⟨xs, m, _, _, hl, hxl, hf⟩ := DataW.trod_struct Try.underlying166 h
  rw [cells_op] at hl
  have h0 : DataW.trod enc Try.prog w 0 (fun _ => true) held m 2 ((cs.drop 0).take (Try.prog.cellsOf 2)) = xs[0]? := hf 0 _ rfl
  have h1 : DataW.trod enc Try.prog w 0 (fun _ => true) held m 2 ((cs.drop 1).take (Try.prog.cellsOf 2)) = xs[1]? := hf 1 _ rfl
  have h2 : DataW.trod enc Try.prog w 0 (fun _ => true) held m 9 ((cs.drop 2).take (Try.prog.cellsOf 9)) = xs[2]? := hf 2 _ rfl
  rw [cells_oint] at h0 h1
  rw [cells_ostr] at h2
  match cs, hl with
  | [c0, c1, c2], _ =>
    have hx0 : xs[0]? = some (xs[0]'(by rw [hxl]; decide)) := List.getElem?_eq_getElem _
    have hx1 : xs[1]? = some (xs[1]'(by rw [hxl]; decide)) := List.getElem?_eq_getElem _
    have hx2 : xs[2]? = some (xs[2]'(by rw [hxl]; decide)) := List.getElem?_eq_getElem _
    rw [hx0] at h0
    rw [hx1] at h1
    rw [hx2] at h2
    obtain ⟨a, ha, wa⟩ := read_int h0
    obtain ⟨b, hb, wb⟩ := read_int h1
    obtain ⟨c, hc, wc⟩ := read_ostr h2
    simp only [List.drop_zero, List.drop_succ_cons, List.take_succ_cons, List.take_zero, List.cons.injEq, and_true] at ha hb hc
    exact ⟨(a, b, c), by rw [ha, hb, hc], wc⟩
theorem read_ops {n : Nat} {v : Value} {x : DataW H × List MemPlace} (h : DataW.trod enc Try.prog w 0 (fun _ => true) held n 139 [v] = some x) : ∃ y, OpR w v y ∧ WfOp y := by
  obtain ⟨y, h1, h2⟩ := open_row (en := fun x : Int × Int × ByteArray => [.int .i64 x.1, .int .i64 x.2.1, .string x.2.2]) (wf := fun y => y.2.2.size ≤ maxLen) Try.underlying139 cells_op (fun _ _ _ h => read_op h) h
  exact ⟨y, ⟨h1, h2⟩, h2⟩
end

set_option maxHeartbeats 1600000 in
set_option maxRecDepth 100000 in
theorem mark_ops {base : Nat} {v : Value} {xs : List (Int × Int × ByteArray)} {bs : List Nat} (k0 : Nat) (w : World) (hn : xs.length ≤ 1048576) (hk0 : k0 ≤ 8388608) (ha : OpE base w v xs bs) :
    Calls Try.prog 96 #[v, .int .i64 (k0 : Int)] w (MarkPost (OpE base) v (mkOp k0 xs) bs (k0 + 3 * xs.length) w) := by
  obtain ⟨A, ca, rfl⟩ := ha.slice
  obtain ⟨n, hn'⟩ : ∃ n, n = xs.length := ⟨_, rfl⟩
  have Hn := Lib.hid hn'
  rw [← hn'] at ha hn ⊢
  clear hn'
  go_enter Try.func96, Try.ntmps96
  go_wp2
  go_loopw [1, 5] (fun kk i wr => ∃ j : Nat, j ≤ n ∧ i = .int .i64 j ∧ kk = .int .i64 ((k0 : Int) + 3 * (j : Int)) ∧ OpE base wr (.slice A n ca) (front (mkOp k0 xs) xs j) bs ∧ Turned bs w wr) (fun _ i _ => n - (intOf i).toNat)
  case atStart => exact ⟨0, Nat.zero_le _, rfl, by go_num, by rw [front_zero]; exact ha, Turned.refl _ _⟩
  case round =>
    obtain ⟨j, hj, rfl, rfl, hE, hT⟩ := hrel
    by_cases hlt : j < n
    · have hjx : j < xs.length := by rw [← Hn.out]; exact hlt
      have hjf : j < (front (mkOp k0 xs) xs j).length := by rw [front_len _ _ (mkOp_len _ _)]; exact hjx
      obtain ⟨g, rfl, hg, hbs⟩ := RowE.head hE hjf
      subst hbs
      obtain ⟨y, hx⟩ : ∃ y, (front (mkOp k0 xs) xs j)[j]? = some y := ⟨_, List.getElem?_eq_getElem hjf⟩
      have hc := (OpE.cell' hE hx).1
      have hcb := (OpE.cell' hE hx).2.1
      have hf := RowE.frozen hE (j * 3)
      have hfb := RowE.frozen hE (j * 3 + 1)
      obtain ⟨t1, ht1⟩ : ∃ t : ByteArray, t = mtS (k0 + 3 * j + 2) := ⟨_, rfl⟩
      have hmt := fun W => mark_textO (k0 + 3 * j + 2) W (by omega)
      rw [← ht1, show ((k0 + 3 * j + 2 : Nat) : Int) = (k0 : Int) + 3 * (j : Int) + 1 + 1 from by omega] at hmt
      have hE1 : ((wr.setCell ⟨g, j * 3, none⟩ (.int .i64 ((k0 : Int) + 3 * (j : Int)))).setCell ⟨g, j * 3 + 1, none⟩ (.int .i64 ((k0 : Int) + 3 * (j : Int) + 1))).ownsRow base 75 3 (.slice (some ⟨g, 0, none⟩) n ca) (front (mkOp k0 xs) xs j).length ((((front (mkOp k0 xs) xs j).flatMap fun x => [Value.int .i64 x.1, .int .i64 x.2.1, .string x.2.2]).set (j * 3) (.int .i64 ((k0 : Int) + 3 * (j : Int)))).set (j * 3 + 1) (.int .i64 ((k0 : Int) + 3 * (j : Int) + 1))) ∧ Turned [g] wr ((wr.setCell ⟨g, j * 3, none⟩ (.int .i64 ((k0 : Int) + 3 * (j : Int)))).setCell ⟨g, j * 3 + 1, none⟩ (.int .i64 ((k0 : Int) + 3 * (j : Int) + 1))) := by
        have hl := hE.len_
        subst hl
        have z1 := hE.1.stored (j * 3) (.int .i64 ((k0 : Int) + 3 * (j : Int)))
        have z2 := z1.1.stored (j * 3 + 1) (.int .i64 ((k0 : Int) + 3 * (j : Int) + 1))
        exact ⟨z2.1, (Turned.of_grown z1.2 (fun r hr => by cases hr; simp)).trans (Turned.of_grown z2.2 (fun r hr => by cases hr; simp))⟩
      obtain ⟨w1, hw1⟩ : ∃ w1, w1 = (wr.setCell ⟨g, j * 3, none⟩ (.int .i64 ((k0 : Int) + 3 * (j : Int)))).setCell ⟨g, j * 3 + 1, none⟩ (.int .i64 ((k0 : Int) + 3 * (j : Int) + 1)) := ⟨_, rfl⟩
      rw [← hw1] at hE1
      have hfin : ∀ w2, Below w1.heap.size w1 w2 → OpE base (w2.setCell ⟨g, j * 3 + 2, none⟩ (.string t1)) (.slice (some ⟨g, 0, none⟩) n ca) (front (mkOp k0 xs) xs (j + 1)) [g] ∧ Turned [g] w (w2.setCell ⟨g, j * 3 + 2, none⟩ (.string t1)) := by
        intro w2 hb
        have hl := hE.len_
        have h2 := row_below hE1.1 hb
        rw [← hl] at h2
        have h3 := h2.stored (j * 3 + 2) (.string t1)
        have e : ((((front (mkOp k0 xs) xs j).flatMap fun x => [Value.int .i64 x.1, .int .i64 x.2.1, .string x.2.2]).set (j * 3) (.int .i64 ((k0 : Int) + 3 * (j : Int)))).set (j * 3 + 1) (.int .i64 ((k0 : Int) + 3 * (j : Int) + 1))).set (j * 3 + 2) (.string t1) = (front (mkOp k0 xs) xs (j + 1)).flatMap fun x => [Value.int .i64 x.1, .int .i64 x.2.1, .string x.2.2] := by
          have := flat_set3 (f := fun x : Int × Int × ByteArray => Value.int .i64 x.1) (g := fun x : Int × Int × ByteArray => Value.int .i64 x.2.1) (h := fun x : Int × Int × ByteArray => Value.string x.2.2) (front (mkOp k0 xs) xs j) j ((k0 : Int) + 3 * (j : Int), (k0 : Int) + 3 * (j : Int) + 1, t1)
          rw [this, front_set _ _ (mkOp_len _ _) (by rw [mkOp_at k0 xs j hjx, ht1])]
        rw [e] at h3
        refine ⟨⟨?_, rfl⟩, ?_⟩
        · rw [show (front (mkOp k0 xs) xs (j + 1)).length = n by rw [front_len _ _ (mkOp_len _ _)]; exact Hn.out.symm]
          exact h3.1
        · exact ((hT.trans hE1.2).trans (Turned.of_below hb)).trans (Turned.of_grown h3.2 (fun r hr => by cases hr; simp))
      have hcel : ∀ w2, Below w1.heap.size w1 w2 → (∃ u, w2.cell? ⟨g, j * 3 + 2, none⟩ = some u) ∧ w2.frozen? ⟨g, j * 3 + 2, none⟩ = false := by
        intro w2 hb
        have hl := hE.len_
        have h2 := row_below hE1.1 hb
        rw [← hl] at h2
        refine ⟨?_, h2.frozenAt _⟩
        have h3 := h2.1
        rw [h2.cellAt _ (by omega), List.getElem?_eq_getElem (by rw [h3]; omega)]
        exact ⟨_, rfl⟩
      have Hfin := Lib.hid hfin
      have Hcel := Lib.hid hcel
      have Hmt := Lib.hid hmt
      have Hw1 := Lib.hid hw1
      clear hfin hcel hmt hE1 ht1 hw1 hjx hjf hx hE hT
      go_wp2_with fail
      rw [← Hw1.out]
      refine (Hmt.out _).mono ?_
      rintro e w2 ⟨rfl, hb2⟩
      obtain ⟨hR, hT2⟩ := Hfin.out _ hb2
      obtain ⟨⟨u, hcu⟩, hfu⟩ := Hcel.out _ hb2
      have HR := Lib.hid (And.intro hR hT2)
      clear hR hT2 hb2
      go_wp2
      go_roundw
      case rel => exact ⟨j + 1, by omega, by go_num, by go_num, HR.out.1, HR.out.2⟩
      case measure => simp [intOf]; omega
    · have e : j = n := by omega
      subst e
      go_wp2
      go_ret
      rw [Hn.out] at hE
      rw [front_all _ _ (mkOp_len _ _)] at hE
      rw [← Hn.out] at hE
      exact ⟨by go_num, hE, hT⟩

set_option maxHeartbeats 1600000 in
set_option maxRecDepth 100000 in
theorem held_ops {base : Nat} {v : Value} {xs : List (Int × Int × ByteArray)} {bs : List Nat} (k0 : Nat) (w : World) (hn : xs.length ≤ 1048576) (hk0 : k0 ≤ 8388608) (ha : OpE base w v (mkOp k0 xs) bs) :
    Calls Try.prog 98 #[v, .int .i64 (k0 : Int)] w (SeenPost (.int .i64 ((k0 + 3 * xs.length : Nat) : Int)) w) := by
  obtain ⟨A, ca, rfl⟩ := ha.slice
  rw [mkOp_len] at ha ⊢
  obtain ⟨n, hn'⟩ : ∃ n, n = xs.length := ⟨_, rfl⟩
  have Hn := Lib.hid hn'
  rw [← hn'] at ha hn ⊢
  clear hn'
  go_enter Try.func98, Try.ntmps98
  go_wp2
  go_loopw [1, 5] (fun kk i wr => ∃ j : Nat, j ≤ n ∧ i = .int .i64 j ∧ kk = .int .i64 ((k0 : Int) + 3 * (j : Int)) ∧ Below w.heap.size w wr) (fun _ i _ => n - (intOf i).toNat)
  case atStart => exact ⟨0, Nat.zero_le _, rfl, by go_num, Below.refl _ _⟩
  case round =>
    obtain ⟨j, hj, rfl, rfl, hB⟩ := hrel
    by_cases hlt : j < n
    · have hjx : j < xs.length := by rw [← Hn.out]; exact hlt
      obtain ⟨g, rfl, hg, _⟩ := RowE.head ha (by rw [mkOp_len]; exact hjx)
      have hx := mkOp_at k0 xs j hjx
      have hc := (hB.cell (p := ⟨g, j * 3, none⟩) hg).trans (OpE.cell' ha hx).1
      have hcb := (hB.cell (p := ⟨g, j * 3 + 1, none⟩) hg).trans (OpE.cell' ha hx).2.1
      have hc2 := (hB.cell (p := ⟨g, j * 3 + 2, none⟩) hg).trans (OpE.cell' ha hx).2.2
      have hmt := fun W => mark_textO (k0 + 3 * j + 2) W (by omega)
      rw [show ((k0 + 3 * j + 2 : Nat) : Int) = (k0 : Int) + 3 * (j : Int) + 1 + 1 from by omega] at hmt
      obtain ⟨t, ht⟩ : ∃ t, mtS (k0 + 3 * j + 2) = t := ⟨_, rfl⟩
      rw [ht] at hmt hc2
      have Hmt := Lib.hid hmt
      have hs := hB.size
      have hmx : Try.prog.follows .mixedOrders = true := by kernel_rfl
      clear hjx hx hmt ht
      go_wp2
      go_region_with (go_at_call 137; refine (Hmt.out _).mono ?_; rintro e w2 ⟨rfl, hb⟩; have hc3 := (hb.cell (p := ⟨g, j * 3 + 2, none⟩) (by show g < wr.heap.size; omega)).trans hc2)
      all_goals
        have hB2 := hB.drew.trans (hb.mono hs)
        go_wp2
        go_roundw
        case rel => exact ⟨j + 1, by omega, by go_num, by go_num, by first | exact hB2 | exact hB2.drew⟩
        case measure => simp [intOf]; omega
    · have e : j = n := by omega
      subst e
      go_wp2
      go_ret
      exact ⟨by go_num, hB⟩
end Go.Proofs.Ytmkamodmnplclaa
