/- Steps of queries: rows of a bool and a text; the laws' own functions on them. -/
import Derived.Test.YtfaiifiohomdmaaBox
import Derived.Test.YtfaiifiohomdmaaConv
import Derived.Test.YtfaiifiohomdmaaRows3
import Derived.Test.YtfaiifiohomdmaaText
namespace Go.Proofs.Ytfaiifiohomdmaa
open Go.RowKit Go.ChangeShapes Go.WideShapes Go.Deep
set_option linter.unusedVariables false

abbrev stepV (x : Bool × ByteArray) : List Value := [.bool x.1, .string x.2]
abbrev StepE (base : Nat) : EP (List (Bool × ByteArray)) := RowE base 203 2 fun x => [.bool x.1, .string x.2]
theorem step_ok (base : Nat) : EP.Ok base (StepE base) := RowE.ok _ _ _ _
theorem StepE.cell' {base g n c : Nat} {w : World} {xs : List (Bool × ByteArray)} {bs : List Nat} (h : StepE base w (.slice (some ⟨g, 0, none⟩) n c) xs bs) {j : Nat} {x : Bool × ByteArray} (hx : xs[j]? = some x) :
    w.cell? ⟨g, j * 2, none⟩ = some (.bool x.1) ∧ w.cell? ⟨g, j * 2 + 1, none⟩ = some (.string x.2) :=
  ⟨RowE.cell h (fun _ => rfl) (i := 0) hx rfl, RowE.cell h (fun _ => rfl) (i := 1) hx rfl⟩
theorem steps_base {b b' : Nat} (hb : b' ≤ b) (w : World) (v : Value) (x : List (Bool × ByteArray)) (bs : List Nat) (h : StepE b w v x bs) : StepE b' w v x bs := ⟨row_base h.1 hb, h.2⟩
abbrev StepR : RP (List (Bool × ByteArray)) := RowR 2 fun x => [.bool x.1, .string x.2]
theorem steps_r : RP.Ok StepR := RowR.ok _ _
def WfS (xs : List (Bool × ByteArray)) : Prop := ∀ y ∈ xs, y.2.size ≤ maxLen
/-- Steps that came in. -/
def StepQ : RP (List (Bool × ByteArray)) := fun w v xs => StepR w v xs ∧ WfS xs
theorem stepq_r : RP.Ok StepQ where
  later := fun h hb => ⟨steps_r.later h.1 hb, h.2⟩
def lenS (xs : List (Bool × ByteArray)) : Nat := 2 * xs.length
def sz1 (x : Bool × ByteArray) : Nat := x.2.size
def cntS (xs : List (Bool × ByteArray)) : Nat := xs.length + szL sz1 xs
def mkS (k : Nat) (xs : List (Bool × ByteArray)) : List (Bool × ByteArray) := (List.range xs.length).map fun i : Nat => (((k : Int) + 2 * (i : Int)) % 3 == 0, mtS (k + 2 * i + 1))
theorem mkS_len (k : Nat) (xs : List (Bool × ByteArray)) : (mkS k xs).length = xs.length := by simp [mkS]
theorem mkS_at (k : Nat) (xs : List (Bool × ByteArray)) (j : Nat) (h : j < xs.length) : (mkS k xs)[j]? = some (((k : Int) + 2 * (j : Int)) % 3 == 0, mtS (k + 2 * j + 1)) := by simp [mkS, h]
theorem le_steps (xs : List (Bool × ByteArray)) : lenS xs ≤ 2 * cntS xs := by unfold lenS cntS; omega
theorem bds_of {xs : List (Bool × ByteArray)} (h : cntS xs ≤ 1048576) : Bd1 xs := by unfold cntS at h; unfold Bd1; omega

theorem eq_step (x : Bool) (y : ByteArray) (w : World) : Calls Try.prog 218 #[.agg #[.bool x, .string y], .agg #[.bool x, .string y]] w (SeenPost (.bool true) w) := by
  go_enter Try.func218, Try.ntmps218
  go_wp2
  go_ret
  exact ⟨rfl, ((Below.refl _ _).alloc (Nat.le_refl _) _).alloc (by simp) _⟩

set_option maxHeartbeats 1600000 in
set_option maxRecDepth 100000 in
theorem eq_steps {base base' : Nat} {v v' : Value} {xs : List (Bool × ByteArray)} {bs bs' : List Nat} (w : World) (hn : xs.length ≤ 1048576) (ha : StepE base w v xs bs) (hb : StepE base' w v' xs bs') :
    Calls Try.prog 188 #[v, v'] w (SeenPost (.bool true) w) := by
  obtain ⟨A, ca, rfl⟩ := ha.slice
  obtain ⟨B, cb, rfl⟩ := hb.slice
  obtain ⟨n, hn'⟩ : ∃ n, n = xs.length := ⟨_, rfl⟩
  have Hn := Lib.hid hn'
  rw [← hn'] at ha hb hn ⊢
  clear hn'
  go_enter Try.func188, Try.ntmps188
  go_wp2
  go_loopw [5] (fun i wr => ∃ k : Nat, k ≤ n ∧ i = .int .i64 k ∧ Below w.heap.size w wr) (fun i _ => n - (intOf i).toNat)
  case atStart => exact ⟨0, Nat.zero_le _, rfl, Below.refl _ _⟩
  case round =>
    obtain ⟨k, hk, rfl, hB⟩ := hrel
    by_cases hlt : k < n
    · have hkx : k < xs.length := by rw [← Hn.out]; exact hlt
      obtain ⟨g, rfl, hg, _⟩ := RowE.head ha hkx
      obtain ⟨g', rfl, hg', _⟩ := RowE.head hb hkx
      have hx : xs[k]? = some xs[k] := List.getElem?_eq_getElem hkx
      have hc1 := (hB.cell (p := ⟨g, k * 2, none⟩) hg).trans (StepE.cell' ha hx).1
      have hc2 := (hB.cell (p := ⟨g', k * 2, none⟩) hg').trans (StepE.cell' hb hx).1
      have hc3 := (hB.cell (p := ⟨g, k * 2 + 1, none⟩) hg).trans (StepE.cell' ha hx).2
      have hc4 := (hB.cell (p := ⟨g', k * 2 + 1, none⟩) hg').trans (StepE.cell' hb hx).2
      have hs := hB.size
      generalize xs[k] = x at hc1 hc2 hc3 hc4
      obtain ⟨x1, x2⟩ := x
      have hmx : Try.prog.follows .mixedOrders = true := by kernel_rfl
      clear hkx hx
      go_wp2
      go_region_with (go_at_call 218; refine (eq_step _ _ _).mono ?_; rintro e w2 ⟨rfl, hb2⟩)
      all_goals
        go_wp2
        go_roundw
        case rel => exact ⟨k + 1, by omega, by go_num, by first | exact hB.drew.trans (hb2.mono hs) | exact hB.trans (hb2.mono hs)⟩
        case measure => simp [intOf]; omega
    · go_wp2
      go_ret
      exact ⟨rfl, hB⟩

theorem to_step (x : Bool) (y : ByteArray) (w : World) : Calls Try.prog 214 #[.agg #[.bool x, .string y]] w fun e w' => e = .returned (.agg #[.bool x, .string y]) ∧ Below w.heap.size w w' := by
  have hB := (((Below.refl w.heap.size w).alloc (Nat.le_refl _) (.cells #[.bool x, .string y] 238)).alloc (by simp) (.cells #[.bool x, .string y] 203)).alloc (by simp; omega) (.cells #[.bool x, .string y] 203)
  go_enter Try.func214, Try.ntmps214
  go_wp2
  exact bodyPost_ret (v := .agg #[.bool x, .string y]) (by simp [results, Try.results214, go_sem]) rfl ⟨rfl, hB⟩

theorem toInfo_step : (Try.prog.info? 203).map (fun i => (i.zero, i.size, i.bytes)) = some (some (.agg #[.bool false, .string ⟨#[]⟩]), 2, 24) := by kernel_rfl
theorem madeCells_pair (y z : Value) (n : Nat) : (madeCells #[y, z] (n * 2)).toList = (List.replicate n ()).flatMap fun _ => [y, z] := by
  have key : ∀ n, (madeCells #[y, z] (n * 2)).toList = (List.range (n * 2)).map fun j => if j % 2 = 0 then y else z := by
    intro n
    simp only [madeCells, Array.toList_map, Array.toList_range]
    refine List.map_congr_left fun j _ => ?_
    show #[y, z][j % 2]! = _
    rcases Nat.mod_two_eq_zero_or_one j with h | h <;> rw [h] <;> rfl
  rw [key]
  induction n with
  | zero => rfl
  | succ n ih =>
    rw [show (n + 1) * 2 = n * 2 + 1 + 1 from by omega, List.range_succ, List.range_succ, List.replicate_succ']
    simp only [List.map_append, List.map_cons, List.map_nil, ih, List.flatMap_append, List.flatMap_cons, List.flatMap_nil, List.append_nil]
    rw [if_pos (by omega), if_neg (by omega)]
    simp
theorem flat_unit (n : Nat) (x : Bool × ByteArray) : (List.replicate n x).flatMap (fun x => [Value.bool x.1, .string x.2]) = (List.replicate n ()).flatMap fun _ => [Value.bool x.1, .string x.2] := by
  induction n with
  | zero => rfl
  | succ n ih => rw [List.replicate_succ, List.replicate_succ, List.flatMap_cons, List.flatMap_cons, ih]
theorem stepE_made (w : World) (n : Nat) (hn : n ≤ maxLen) : StepE w.heap.size (w.alloc (.cells (madeCells #[.bool false, .string ⟨#[]⟩] (n * 2)) 203)) (.slice (some ⟨w.heap.size, 0, none⟩) n n) (List.replicate n ((false, ⟨#[]⟩) : Bool × ByteArray)) [w.heap.size] := by
  have h := World.ownsRow_lit (base := w.heap.size) (e := 203) (size := 2) w (madeCells #[.bool false, .string ⟨#[]⟩] (n * 2)) n (Nat.le_refl _) hn (by simp [size_madeCells])
  rw [madeCells_pair] at h
  refine ⟨?_, rfl⟩
  rw [List.length_replicate, flat_unit]
  exact h
theorem make_steps (n : Nat) (hn : n ≤ 1048576) (w : World) :
    (Instr.makeSlice 69 (.int .i64 (n : Int)) (.int .i64 (n : Int))).run Try.prog w = .ok (.slice (some ⟨w.heap.size, 0, none⟩) n n) (w.alloc (.cells (madeCells #[.bool false, .string ⟨#[]⟩] (n * 2)) 203)) := by
  obtain ⟨i, hi, hzz⟩ := Option.map_eq_some_iff.1 toInfo_step
  simp only [Prod.mk.injEq] at hzz
  obtain ⟨hz, hs, hb⟩ := hzz
  have hr := run_make (P := Try.prog) w 69 203 i _ Try.underlying69 hi hz .i64 .i64 n n (by omega) (Int.le_refl _) (by rw [hb]; omega) (by omega)
  simp only [Int.toNat_natCast, hs] at hr
  exact hr

set_option maxHeartbeats 1600000 in
set_option maxRecDepth 100000 in
theorem to_steps {v : Value} {xs : List (Bool × ByteArray)} (w : World) (hn : Bd1 xs) (ha : StepQ w v xs) : Calls Try.prog 181 #[v] w (NewPost StepE xs w) := by
  obtain ⟨⟨A, ca, rfl, _, hA⟩, _⟩ := ha
  unfold Bd1 at hn
  obtain ⟨n, hn'⟩ : ∃ n, n = xs.length := ⟨_, rfl⟩
  have Hn := Lib.hid hn'
  have HA := Lib.hid hA
  rw [← hn'] at hn ⊢
  have hmk := make_steps n hn
  have hst := stepE_made w n (by unfold maxLen; omega)
  have Hst := Lib.hid hst
  clear hn' hA hst
  go_enter Try.func181, Try.ntmps181
  go_wp2
  go_loopw [4] (fun i wr => ∃ j : Nat, j ≤ n ∧ i = .int .i64 j ∧ StepE w.heap.size wr (.slice (some ⟨w.heap.size, 0, none⟩) n n) (front xs (List.replicate n ((false, ⟨#[]⟩) : Bool × ByteArray)) j) [w.heap.size] ∧ Below w.heap.size w wr) (fun i _ => n - (intOf i).toNat)
  case atStart => exact ⟨0, Nat.zero_le _, rfl, by rw [front_zero]; exact Hst.out, (Below.refl _ _).alloc (Nat.le_refl _) _⟩
  case round =>
    obtain ⟨j, hj, rfl, hE, hB⟩ := hrel
    have hrl : xs.length = (List.replicate n ((false, ⟨#[]⟩) : Bool × ByteArray)).length := by rw [List.length_replicate]; exact Hn.out.symm
    by_cases hlt : j < n
    · have hjx : j < xs.length := by rw [← Hn.out]; exact hlt
      obtain ⟨x, hx⟩ : ∃ x, xs[j]? = some x := ⟨_, List.getElem?_eq_getElem hjx⟩
      obtain ⟨y, hy⟩ : ∃ y, (front xs (List.replicate n ((false, ⟨#[]⟩) : Bool × ByteArray)) j)[j]? = some y := ⟨_, List.getElem?_eq_getElem (by rw [front_len _ _ hrl, ← hrl]; exact hjx)⟩
      obtain ⟨A', rfl, hl, hc0⟩ := HA.out j x 0 _ hx rfl
      obtain ⟨A'', hAA, _, hc1⟩ := HA.out j x 1 _ hx rfl
      cases hAA
      rw [add_zero'] at hc0
      have hc := (hB.cell (p := A'.add (j * 2)) (by rw [add_block]; exact hl)).trans hc0
      have hc2 := (hB.cell (p := (A'.add (j * 2)).add 1) (by rw [add_block, add_block]; exact hl)).trans hc1
      rw [add_one'] at hc2
      have hs := hB.size
      obtain ⟨x1, x2⟩ := x
      have hp0 := fun (W : World) (hb : Below wr.heap.size wr W) => RowE.put2 (f := fun x : Bool × ByteArray => Value.bool x.1) (k := fun x : Bool × ByteArray => Value.string x.2) ((step_ok _).later hE hb) j (x1, x2)
      rw [front_set _ _ hrl hx] at hp0
      have Hp := Lib.hid hp0
      have hcy := fun (W : World) (hb : Below wr.heap.size wr W) => StepE.cell' ((step_ok _).later hE hb) hy
      have hfz := fun (W : World) (hb : Below wr.heap.size wr W) (q : Nat) => RowE.frozen ((step_ok _).later hE hb) q
      have Hcy := Lib.hid hcy
      have Hfz := Lib.hid hfz
      clear hjx hx hy hc0 hc1 hrl hp0 hcy hfz
      go_wp2_with (go_at_call 214; refine (to_step _ _ _).mono ?_; rintro e w2 ⟨rfl, hb2⟩; obtain ⟨y1, y2⟩ := Hcy.out _ hb2; have z1 := Hfz.out _ hb2 (j * 2); have z2 := Hfz.out _ hb2 (j * 2 + 1))
      have hB2 := ((hB.trans (hb2.mono hs)).setCell (p := ⟨w.heap.size, j * 2, none⟩) (Nat.le_refl _) (.bool x1)).setCell (p := ⟨w.heap.size, j * 2 + 1, none⟩) (Nat.le_refl _) (.string x2)
      have hp := (Hp.out _ hb2).1
      go_roundw
      case rel => exact ⟨j + 1, by omega, by go_num, hp, hB2⟩
      case measure => simp [intOf]; omega
    · have e : j = n := by omega
      subst e
      rw [show j = (List.replicate j ((false, ⟨#[]⟩) : Bool × ByteArray)).length from by rw [List.length_replicate]] at hE
      have hE2 := front_all _ _ hrl
      clear hrl
      go_wp2
      go_ret
      rw [List.length_replicate] at hE hE2
      rw [hE2] at hE
      exact ⟨_, _, rfl, hE, hB⟩

theorem sz_step (x : Bool) (y : ByteArray) (q : Nat) (w : World) (hq : q ≤ 1048576) (hy : y.size ≤ maxLen) : Calls Try.prog 212 #[.agg #[.bool x, .string y], .int .i64 (q : Int)] w fun e w' => e = .returned (.int .i64 (dec q y.size)) ∧ Below w.heap.size w w' := by
  have hB := (Below.refl w.heap.size w).alloc (Nat.le_refl _) (.cells #[.bool x, .string y] 238)
  unfold maxLen at hy
  by_cases h : y.size ≤ q
  · rw [dec_yes h]
    go_enter Try.func212, Try.ntmps212
    go_wp2
    go_ret
    exact ⟨by go_num, hB⟩
  · rw [dec_no h]
    have h' : q < y.size := by omega
    clear h
    go_enter Try.func212, Try.ntmps212
    go_wp2
    go_ret
    exact ⟨rfl, hB⟩

set_option maxHeartbeats 1600000 in
set_option maxRecDepth 100000 in
theorem sz_steps {v : Value} {xs : List (Bool × ByteArray)} (left : Nat) (w : World) (hl : left ≤ 1048576) (ha : StepQ w v xs) : Calls Try.prog 178 #[v, .int .i64 (left : Int)] w fun e w' => e = .returned (.int .i64 (dec left (cntS xs))) ∧ Below w.heap.size w w' := by
  obtain ⟨⟨A, ca, rfl, hm, hA⟩, hwf⟩ := ha
  unfold maxLen at hm
  obtain ⟨n, hn'⟩ : ∃ n, n = xs.length := ⟨_, rfl⟩
  obtain ⟨t, ht⟩ : ∃ t, t = cntS xs := ⟨_, rfl⟩
  have htn : t = n + szL sz1 xs := by rw [ht, hn']; rfl
  have Hn := Lib.hid hn'
  have HA := Lib.hid hA
  have Ht := Lib.hid htn
  have Hwf := Lib.hid hwf
  rw [← hn'] at hm ⊢
  rw [← ht]
  clear hn' hA ht htn hwf
  by_cases h0 : n ≤ left
  · obtain ⟨q0, hq0⟩ : ∃ q0, q0 = left - n := ⟨_, rfl⟩
    have hq1 : q0 + n = left := by omega
    have hq2 : ((left : Int) - (n : Int)) = (q0 : Int) := by omega
    have hq3 : q0 ≤ 1048576 := by omega
    clear hq0
    have Hq1 := Lib.hid hq1
    have Hq2 := Lib.hid hq2
    clear hq1 hq2
    go_enter Try.func178, Try.ntmps178
    go_wp2
    go_loopw [1, 5] (fun l i wr => ∃ j q : Nat, j ≤ n ∧ i = .int .i64 j ∧ l = .int .i64 (q : Int) ∧ q ≤ 1048576 ∧ Hid (q + n + szL sz1 (xs.take j) = left) ∧ Below w.heap.size w wr) (fun _ i _ => n - (intOf i).toNat)
    case atStart => exact ⟨0, q0, Nat.zero_le _, rfl, by rw [Hq2.out], hq3, by show _ = _; rw [← Hq1.out]; simp [szL], Below.refl _ _⟩
    case round =>
      obtain ⟨j, q, hj, rfl, rfl, hq, hsum, hB⟩ := hrel
      have hsz := hB.size
      by_cases hlt : j < n
      · have hjx : j < xs.length := by rw [← Hn.out]; exact hlt
        obtain ⟨x, hx⟩ : ∃ x, xs[j]? = some x := ⟨_, List.getElem?_eq_getElem hjx⟩
        obtain ⟨A', rfl, hbl, hc0⟩ := HA.out j x 0 _ hx rfl
        obtain ⟨A'', hAA, _, hc1⟩ := HA.out j x 1 _ hx rfl
        cases hAA
        rw [add_zero'] at hc0
        have hc := (hB.cell (p := A'.add (j * 2)) (by rw [add_block]; exact hbl)).trans hc0
        have hc2 := (hB.cell (p := (A'.add (j * 2)).add 1) (by rw [add_block, add_block]; exact hbl)).trans hc1
        rw [add_one'] at hc2
        have hss := szL_take_succ (sz := sz1) hx
        have hle := szL_take_le (sz := sz1) xs (j + 1)
        have hxm := Hwf.out x (List.mem_of_getElem? hx)
        obtain ⟨x1, x2⟩ := x
        obtain ⟨y, hy⟩ : ∃ y, y = x2.size := ⟨_, rfl⟩
        have hsub := fun W => sz_step x1 x2 q W hq hxm
        rw [← hy] at hsub
        rw [show sz1 (x1, x2) = y from hy.symm] at hss
        have Hss := Lib.hid hss
        have Hle := Lib.hid hle
        clear hss hle hjx hx hy hc0 hc1 hxm
        by_cases hyq : y ≤ q
        · rw [dec_yes hyq] at hsub
          have Hsub := Lib.hid hsub
          obtain ⟨q', hq'⟩ : ∃ q', q' = q - y := ⟨_, rfl⟩
          have hq2 : q' + y = q := by omega
          rw [← hq'] at Hsub
          clear hsub hq'
          go_wp2_with (go_at_call 212; refine (Hsub.out _).mono ?_; rintro e w' ⟨rfl, hb2⟩)
          go_roundw
          case rel => exact ⟨j + 1, q', by omega, by go_num, rfl, by omega, by show _ = _; have := hsum.out; have := Hss.out; omega, hB.trans (hb2.mono hsz)⟩
          case measure => simp [intOf]; omega
        · rw [dec_no hyq] at hsub
          have Hsub := Lib.hid hsub
          have hno : ¬ t ≤ left := by
            have := hsum.out
            have := Hss.out
            have := Hle.out
            have := Ht.out
            omega
          have hd := Lib.hid (dec_no hno)
          clear hsub hyq hno
          go_wp2_with (go_at_call 212; refine (Hsub.out _).mono ?_; rintro e w' ⟨rfl, hb2⟩)
          go_ret
          exact ⟨by rw [hd.out]; rfl, hB.trans (hb2.mono hsz)⟩
      · have e : j = n := by omega
        subst e
        have hall : q + t = left := by
          have h1 := hsum.out
          rw [Hn.out, List.take_length] at h1
          have := Ht.out
          have := Hn.out
          omega
        have hv : ((left - t : Nat) : Int) = (q : Int) := by omega
        have hd := Lib.hid ((dec_yes (left := left) (n := t) (by omega)).trans hv)
        clear hall hv hsum
        go_wp2
        go_ret
        exact ⟨by rw [hd.out]; rfl, hB⟩
  · have h' : left < n := by omega
    have hno : ¬ t ≤ left := by have := Ht.out; omega
    rw [dec_no hno]
    clear h0 hno
    go_enter Try.func178, Try.ntmps178
    go_wp2
    go_ret
    exact ⟨rfl, Below.refl _ _⟩

theorem cells_qstep : Try.prog.cellsOf 238 = 2 := by kernel_rfl
theorem cells_qsteps : Try.prog.cellsOf 62 = 1 := by kernel_rfl
theorem cells_qstr : Try.prog.cellsOf 9 = 1 := by kernel_rfl
theorem cells_qbool : Try.prog.cellsOf 4 = 1 := by kernel_rfl
section
variable {H : Type} {enc : TypeId × Value → H} {w : World} {held : Bool}
theorem read_str {n : Nat} {cs : List Value} {x : DataW H × List MemPlace} (h : DataW.trod enc Try.prog w 0 (fun _ => true) held n 9 cs = some x) : ∃ y : ByteArray, cs = [.string y] ∧ y.size ≤ maxLen := by
  obtain ⟨y, rfl, _, hw⟩ := DataW.trod_string Try.underlying9 h
  exact ⟨y, rfl, hw⟩
set_option maxRecDepth 100000 in
theorem read_qstep {n : Nat} {cs : List Value} {x : DataW H × List MemPlace} (h : DataW.trod enc Try.prog w 0 (fun _ => true) held n 238 cs = some x) : ∃ y : Bool × ByteArray, cs = [.bool y.1, .string y.2] ∧ y.2.size ≤ maxLen := by
  obtain ⟨xs, m, _, _, hl, hxl, hf⟩ := DataW.trod_struct Try.underlying238 h
  rw [cells_qstep] at hl
  have h0 : DataW.trod enc Try.prog w 0 (fun _ => true) held m 4 ((cs.drop 0).take (Try.prog.cellsOf 4)) = xs[0]? := hf 0 _ rfl
  have h1 : DataW.trod enc Try.prog w 0 (fun _ => true) held m 9 ((cs.drop 1).take (Try.prog.cellsOf 9)) = xs[1]? := hf 1 _ rfl
  rw [cells_qbool] at h0
  rw [cells_qstr] at h1
  match cs, hl with
  | [c0, c1], _ =>
    have hx0 : xs[0]? = some (xs[0]'(by rw [hxl]; decide)) := List.getElem?_eq_getElem _
    have hx1 : xs[1]? = some (xs[1]'(by rw [hxl]; decide)) := List.getElem?_eq_getElem _
    rw [hx0] at h0
    rw [hx1] at h1
    obtain ⟨a, ha, wa⟩ := read_bool h0
    obtain ⟨b, hb, wb⟩ := read_str h1
    simp only [List.drop_zero, List.take_succ_cons, List.take_zero, List.cons.injEq, and_true] at ha
    simp only [List.drop_succ_cons, List.drop_zero, List.take_succ_cons, List.take_zero, List.cons.injEq, and_true] at hb
    exact ⟨(a, b), by rw [ha, hb], wb⟩
theorem read_steps {n : Nat} {v : Value} {x : DataW H × List MemPlace} (h : DataW.trod enc Try.prog w 0 (fun _ => true) held n 62 [v] = some x) : ∃ y, StepQ w v y ∧ WfS y := by
  obtain ⟨y, h1, h2⟩ := open_row (en := fun x : Bool × ByteArray => [.bool x.1, .string x.2]) (wf := fun y => y.2.size ≤ maxLen) Try.underlying62 cells_qstep (fun _ _ _ h => read_qstep h) h
  exact ⟨y, ⟨h1, h2⟩, h2⟩
end

end Go.Proofs.Ytfaiifiohomdmaa
