/- Moves that write: rows of a number and a text; the laws' own functions on them. -/
import Derived.Test.YtmkamodmnplclaaBox
import Derived.Test.YtmkamodmnplclaaConv
import Derived.Test.YtmkamodmnplclaaRows3
import Derived.Test.YtmkamodmnplclaaText
namespace Go.Proofs.Ytmkamodmnplclaa
open Go.RowKit Go.ChangeShapes Go.WideShapes Go.Deep
set_option linter.unusedVariables false

abbrev omV (x : Int × ByteArray) : List Value := [.int .i64 x.1, .string x.2]
abbrev OmE (base : Nat) : EP (List (Int × ByteArray)) := RowE base 78 2 fun x => [.int .i64 x.1, .string x.2]
theorem om_ok (base : Nat) : EP.Ok base (OmE base) := RowE.ok _ _ _ _
theorem OmE.cell' {base g n c : Nat} {w : World} {xs : List (Int × ByteArray)} {bs : List Nat} (h : OmE base w (.slice (some ⟨g, 0, none⟩) n c) xs bs) {j : Nat} {x : Int × ByteArray} (hx : xs[j]? = some x) :
    w.cell? ⟨g, j * 2, none⟩ = some (.int .i64 x.1) ∧ w.cell? ⟨g, j * 2 + 1, none⟩ = some (.string x.2) :=
  ⟨RowE.cell h (fun _ => rfl) (i := 0) hx rfl, RowE.cell h (fun _ => rfl) (i := 1) hx rfl⟩
theorem oms_base {b b' : Nat} (hb : b' ≤ b) (w : World) (v : Value) (x : List (Int × ByteArray)) (bs : List Nat) (h : OmE b w v x bs) : OmE b' w v x bs := ⟨row_base h.1 hb, h.2⟩
abbrev OmR0 : RP (List (Int × ByteArray)) := RowR 2 fun x => [.int .i64 x.1, .string x.2]
theorem oms_r0 : RP.Ok OmR0 := RowR.ok _ _
def WfOm (xs : List (Int × ByteArray)) : Prop := ∀ y ∈ xs, y.2.size ≤ maxLen
/-- Steps that came in. -/
def OmR : RP (List (Int × ByteArray)) := fun w v xs => OmR0 w v xs ∧ WfOm xs
theorem oms_r : RP.Ok OmR where
  later := fun h hb => ⟨oms_r0.later h.1 hb, h.2⟩
def lenOm (xs : List (Int × ByteArray)) : Nat := 2 * xs.length
def szOm1 (x : Int × ByteArray) : Nat := x.2.size
def cntOm (xs : List (Int × ByteArray)) : Nat := xs.length + szL szOm1 xs
def mkOm (k : Nat) (xs : List (Int × ByteArray)) : List (Int × ByteArray) := (List.range xs.length).map fun i : Nat => ((k : Int) + 2 * (i : Int), mtS (k + 2 * i + 1))
theorem mkOm_len (k : Nat) (xs : List (Int × ByteArray)) : (mkOm k xs).length = xs.length := by simp [mkOm]
theorem mkOm_at (k : Nat) (xs : List (Int × ByteArray)) (j : Nat) (h : j < xs.length) : (mkOm k xs)[j]? = some ((k : Int) + 2 * (j : Int), mtS (k + 2 * j + 1)) := by simp [mkOm, h]
theorem le_oms (xs : List (Int × ByteArray)) : lenOm xs ≤ 2 * cntOm xs := by unfold lenOm cntOm; omega
theorem bd_oms {xs : List (Int × ByteArray)} (h : cntOm xs ≤ 1048576) : Bd1 xs := by unfold cntOm at h; unfold Bd1; omega

theorem mark_textO0 (w : World) : Calls Try.prog 137 #[.int .i64 0] w (TupPost (.string (mtS 0)) w) := by
  go_enter Try.func137, Try.ntmps137
  go_wp2
  go_ret
  exact ⟨rfl, Below.refl _ _⟩
theorem mark_textO (k : Nat) (w : World) (hk : k ≤ 16777216) : Calls Try.prog 137 #[.int .i64 (k : Int)] w (TupPost (.string (mtS k)) w) := by
  rcases Nat.eq_zero_or_pos k with rfl | h
  · exact mark_textO0 w
  · exact mark_text k w h hk

theorem eq_om (x : Int) (y : ByteArray) (w : World) : Calls Try.prog 136 #[.agg #[.int .i64 x, .string y], .agg #[.int .i64 x, .string y]] w (SeenPost (.bool true) w) := by
  go_enter Try.func136, Try.ntmps136
  go_wp2
  go_ret
  exact ⟨rfl, ((Below.refl _ _).alloc (Nat.le_refl _) _).alloc (by simp) _⟩

set_option maxHeartbeats 1600000 in
set_option maxRecDepth 100000 in
theorem eq_oms {base base' : Nat} {v v' : Value} {xs : List (Int × ByteArray)} {bs bs' : List Nat} (w : World) (hn : xs.length ≤ 1048576) (ha : OmE base w v xs bs) (hb : OmE base' w v' xs bs') :
    Calls Try.prog 95 #[v, v'] w (SeenPost (.bool true) w) := by
  obtain ⟨A, ca, rfl⟩ := ha.slice
  obtain ⟨B, cb, rfl⟩ := hb.slice
  obtain ⟨n, hn'⟩ : ∃ n, n = xs.length := ⟨_, rfl⟩
  have Hn := Lib.hid hn'
  rw [← hn'] at ha hb hn ⊢
  clear hn'
  go_enter Try.func95, Try.ntmps95
  go_wp2
  go_loopw [5] (fun i wr => ∃ k : Nat, k ≤ n ∧ i = .int .i64 k ∧ Below w.heap.size w wr) (fun i _ => n - (intOf i).toNat)
  case atStart => exact ⟨0, Nat.zero_le _, rfl, Below.refl _ _⟩
  case round =>
    obtain ⟨k, hk, rfl, hB⟩ := hrel
    by_cases hlt : k < n
    · have hkx : k < xs.length := by rw [← Hn.out]; exact hlt
      obtain ⟨g, rfl, hg, _⟩ := RowE.head ha hkx
      obtain ⟨g', rfl, hg', _⟩ := RowE.head hb hkx
      have hx : xs[k]? = some xs[k] := List.getElem?_eq_getElem hkx
      have hc1 := (hB.cell (p := ⟨g, k * 2, none⟩) hg).trans (OmE.cell' ha hx).1
      have hc2 := (hB.cell (p := ⟨g', k * 2, none⟩) hg').trans (OmE.cell' hb hx).1
      have hc3 := (hB.cell (p := ⟨g, k * 2 + 1, none⟩) hg).trans (OmE.cell' ha hx).2
      have hc4 := (hB.cell (p := ⟨g', k * 2 + 1, none⟩) hg').trans (OmE.cell' hb hx).2
      have hs := hB.size
      generalize xs[k] = x at hc1 hc2 hc3 hc4
      obtain ⟨x1, x2⟩ := x
      have hmx : Try.prog.follows .mixedOrders = true := by kernel_rfl
      clear hkx hx
      go_wp2
      go_region_with (go_at_call 136; refine (eq_om _ _ _).mono ?_; rintro e w2 ⟨rfl, hb2⟩)
      all_goals
        go_wp2
        go_roundw
        case rel => exact ⟨k + 1, by omega, by go_num, by first | exact hB.drew.trans (hb2.mono hs) | exact hB.trans (hb2.mono hs)⟩
        case measure => simp [intOf]; omega
    · go_wp2
      go_ret
      exact ⟨rfl, hB⟩

theorem to_om (x : Int) (y : ByteArray) (w : World) : Calls Try.prog 142 #[.agg #[.int .i64 x, .string y]] w fun e w' => e = .returned (.agg #[.int .i64 x, .string y]) ∧ Below w.heap.size w w' := by
  have hB := (((Below.refl w.heap.size w).alloc (Nat.le_refl _) (.cells #[.int .i64 x, .string y] 168)).alloc (by simp) (.cells #[.int .i64 x, .string y] 78)).alloc (by simp; omega) (.cells #[.int .i64 x, .string y] 78)
  go_enter Try.func142, Try.ntmps142
  go_wp2
  exact bodyPost_ret (v := .agg #[.int .i64 x, .string y]) (by simp [results, Try.results142, go_sem]) rfl ⟨rfl, hB⟩

theorem toInfo_om : (Try.prog.info? 78).map (fun i => (i.zero, i.size, i.bytes)) = some (some (.agg #[.int .i64 0, .string ⟨#[]⟩]), 2, 24) := by kernel_rfl
theorem madeCells_om (y z : Value) (n : Nat) : (madeCells #[y, z] (n * 2)).toList = (List.replicate n ()).flatMap fun _ => [y, z] := by
  have key : ∀ n, (madeCells #[y, z] (n * 2)).toList = (List.range (n * 2)).map fun j => if j % 2 = 0 then y else z := by
    intro n
    simp only [madeCells, Array.toList_map, Array.toList_range]
    refine List.map_congr_left fun j _ => ?_
    show #[y, z][j % 2]! = _
    rcases Nat.mod_two_eq_zero_or_one j with h | h <;> rw [h] <;> rfl
  rw [key]
  induction n with
  | zero => rfl
  | succ n ih =>
    rw [show (n + 1) * 2 = n * 2 + 1 + 1 from by omega, List.range_succ, List.range_succ, List.replicate_succ']
    simp only [List.map_append, List.map_cons, List.map_nil, ih, List.flatMap_append, List.flatMap_cons, List.flatMap_nil, List.append_nil]
    rw [if_pos (by omega), if_neg (by omega)]
    simp
theorem flat_unitO (n : Nat) (x : Int × ByteArray) : (List.replicate n x).flatMap (fun x => [Value.int .i64 x.1, .string x.2]) = (List.replicate n ()).flatMap fun _ => [Value.int .i64 x.1, .string x.2] := by
  induction n with
  | zero => rfl
  | succ n ih => rw [List.replicate_succ, List.replicate_succ, List.flatMap_cons, List.flatMap_cons, ih]
theorem omE_made (w : World) (n : Nat) (hn : n ≤ maxLen) : OmE w.heap.size (w.alloc (.cells (madeCells #[.int .i64 0, .string ⟨#[]⟩] (n * 2)) 78)) (.slice (some ⟨w.heap.size, 0, none⟩) n n) (List.replicate n ((0, ⟨#[]⟩) : Int × ByteArray)) [w.heap.size] := by
  have h := World.ownsRow_lit (base := w.heap.size) (e := 78) (size := 2) w (madeCells #[.int .i64 0, .string ⟨#[]⟩] (n * 2)) n (Nat.le_refl _) hn (by simp [size_madeCells])
  rw [madeCells_om] at h
  refine ⟨?_, rfl⟩
  rw [List.length_replicate, flat_unitO]
  exact h
theorem make_oms (n : Nat) (hn : n ≤ 1048576) (w : World) :
    (Instr.makeSlice 79 (.int .i64 (n : Int)) (.int .i64 (n : Int))).run Try.prog w = .ok (.slice (some ⟨w.heap.size, 0, none⟩) n n) (w.alloc (.cells (madeCells #[.int .i64 0, .string ⟨#[]⟩] (n * 2)) 78)) := by
  obtain ⟨i, hi, hzz⟩ := Option.map_eq_some_iff.1 toInfo_om
  simp only [Prod.mk.injEq] at hzz
  obtain ⟨hz, hs, hb⟩ := hzz
  have hr := run_make (P := Try.prog) w 79 78 i _ Try.underlying79 hi hz .i64 .i64 n n (by omega) (Int.le_refl _) (by rw [hb]; omega) (by omega)
  simp only [Int.toNat_natCast, hs] at hr
  exact hr

set_option maxHeartbeats 1600000 in
set_option maxRecDepth 100000 in
theorem to_oms {v : Value} {xs : List (Int × ByteArray)} (w : World) (hn : Bd1 xs) (ha : OmR w v xs) : Calls Try.prog 119 #[v] w (NewPost OmE xs w) := by
  obtain ⟨⟨A, ca, rfl, _, hA⟩, _⟩ := ha
  unfold Bd1 at hn
  obtain ⟨n, hn'⟩ : ∃ n, n = xs.length := ⟨_, rfl⟩
  have Hn := Lib.hid hn'
  have HA := Lib.hid hA
  rw [← hn'] at hn ⊢
  have hmk := make_oms n hn
  have hst := omE_made w n (by unfold maxLen; omega)
  have Hst := Lib.hid hst
  clear hn' hA hst
  go_enter Try.func119, Try.ntmps119
  go_wp2
  go_loopw [4] (fun i wr => ∃ j : Nat, j ≤ n ∧ i = .int .i64 j ∧ OmE w.heap.size wr (.slice (some ⟨w.heap.size, 0, none⟩) n n) (front xs (List.replicate n ((0, ⟨#[]⟩) : Int × ByteArray)) j) [w.heap.size] ∧ Below w.heap.size w wr) (fun i _ => n - (intOf i).toNat)
  case atStart => exact ⟨0, Nat.zero_le _, rfl, by rw [front_zero]; exact Hst.out, (Below.refl _ _).alloc (Nat.le_refl _) _⟩
  case round =>
    obtain ⟨j, hj, rfl, hE, hB⟩ := hrel
    have hrl : xs.length = (List.replicate n ((0, ⟨#[]⟩) : Int × ByteArray)).length := by rw [List.length_replicate]; exact Hn.out.symm
    by_cases hlt : j < n
    · have hjx : j < xs.length := by rw [← Hn.out]; exact hlt
      obtain ⟨x, hx⟩ : ∃ x, xs[j]? = some x := ⟨_, List.getElem?_eq_getElem hjx⟩
      obtain ⟨y, hy⟩ : ∃ y, (front xs (List.replicate n ((0, ⟨#[]⟩) : Int × ByteArray)) j)[j]? = some y := ⟨_, List.getElem?_eq_getElem (by rw [front_len _ _ hrl, ← hrl]; exact hjx)⟩
      obtain ⟨A', rfl, hl, hc0⟩ := HA.out j x 0 _ hx rfl
      obtain ⟨A'', hAA, _, hc1⟩ := HA.out j x 1 _ hx rfl
      cases hAA
      rw [add_zero'] at hc0
      have hc := (hB.cell (p := A'.add (j * 2)) (by rw [add_block]; exact hl)).trans hc0
      have hc2 := (hB.cell (p := (A'.add (j * 2)).add 1) (by rw [add_block, add_block]; exact hl)).trans hc1
      rw [add_one'] at hc2
      have hs := hB.size
      obtain ⟨x1, x2⟩ := x
      have hp0 := fun (W : World) (hb : Below wr.heap.size wr W) => RowE.put2 (f := fun x : Int × ByteArray => Value.int .i64 x.1) (k := fun x : Int × ByteArray => Value.string x.2) ((om_ok _).later hE hb) j (x1, x2)
      rw [front_set _ _ hrl hx] at hp0
      have Hp := Lib.hid hp0
      have hcy := fun (W : World) (hb : Below wr.heap.size wr W) => OmE.cell' ((om_ok _).later hE hb) hy
      have hfz := fun (W : World) (hb : Below wr.heap.size wr W) (q : Nat) => RowE.frozen ((om_ok _).later hE hb) q
      have Hcy := Lib.hid hcy
      have Hfz := Lib.hid hfz
      clear hjx hx hy hc0 hc1 hrl hp0 hcy hfz
      go_wp2_with (go_at_call 142; refine (to_om _ _ _).mono ?_; rintro e w2 ⟨rfl, hb2⟩; obtain ⟨y1, y2⟩ := Hcy.out _ hb2; have z1 := Hfz.out _ hb2 (j * 2); have z2 := Hfz.out _ hb2 (j * 2 + 1))
      have hB2 := ((hB.trans (hb2.mono hs)).setCell (p := ⟨w.heap.size, j * 2, none⟩) (Nat.le_refl _) (.int .i64 x1)).setCell (p := ⟨w.heap.size, j * 2 + 1, none⟩) (Nat.le_refl _) (.string x2)
      have hp := (Hp.out _ hb2).1
      go_roundw
      case rel => exact ⟨j + 1, by omega, by go_num, hp, hB2⟩
      case measure => simp [intOf]; omega
    · have e : j = n := by omega
      subst e
      rw [show j = (List.replicate j ((0, ⟨#[]⟩) : Int × ByteArray)).length from by rw [List.length_replicate]] at hE
      have hE2 := front_all _ _ hrl
      clear hrl
      go_wp2
      go_ret
      rw [List.length_replicate] at hE hE2
      rw [hE2] at hE
      exact ⟨_, _, rfl, hE, hB⟩

theorem sz_om (x : Int) (y : ByteArray) (q : Nat) (w : World) (hq : q ≤ 1048576) (hy : y.size ≤ maxLen) : Calls Try.prog 140 #[.agg #[.int .i64 x, .string y], .int .i64 (q : Int)] w fun e w' => e = .returned (.int .i64 (dec q y.size)) ∧ Below w.heap.size w w' := by
  have hB := (Below.refl w.heap.size w).alloc (Nat.le_refl _) (.cells #[.int .i64 x, .string y] 168)
  unfold maxLen at hy
  by_cases h : y.size ≤ q
  · rw [dec_yes h]
    go_enter Try.func140, Try.ntmps140
    go_wp2
    go_ret
    exact ⟨by go_num, hB⟩
  · rw [dec_no h]
    have h' : q < y.size := by omega
    clear h
    go_enter Try.func140, Try.ntmps140
    go_wp2
    go_ret
    exact ⟨rfl, hB⟩

set_option maxHeartbeats 1600000 in
set_option maxRecDepth 100000 in
theorem sz_oms {v : Value} {xs : List (Int × ByteArray)} (left : Nat) (w : World) (hl : left ≤ 1048576) (ha : OmR w v xs) : Calls Try.prog 114 #[v, .int .i64 (left : Int)] w fun e w' => e = .returned (.int .i64 (dec left (cntOm xs))) ∧ Below w.heap.size w w' := by
  obtain ⟨⟨A, ca, rfl, hm, hA⟩, hwf⟩ := ha
  unfold maxLen at hm
  obtain ⟨n, hn'⟩ : ∃ n, n = xs.length := ⟨_, rfl⟩
  obtain ⟨t, ht⟩ : ∃ t, t = cntOm xs := ⟨_, rfl⟩
  have htn : t = n + szL szOm1 xs := by rw [ht, hn']; rfl
  have Hn := Lib.hid hn'
  have HA := Lib.hid hA
  have Ht := Lib.hid htn
  have Hwf := Lib.hid hwf
  rw [← hn'] at hm ⊢
  rw [← ht]
  clear hn' hA ht htn hwf
  by_cases h0 : n ≤ left
  · obtain ⟨q0, hq0⟩ : ∃ q0, q0 = left - n := ⟨_, rfl⟩
    have hq1 : q0 + n = left := by omega
    have hq2 : ((left : Int) - (n : Int)) = (q0 : Int) := by omega
    have hq3 : q0 ≤ 1048576 := by omega
    clear hq0
    have Hq1 := Lib.hid hq1
    have Hq2 := Lib.hid hq2
    clear hq1 hq2
    go_enter Try.func114, Try.ntmps114
    go_wp2
    go_loopw [1, 5] (fun l i wr => ∃ j q : Nat, j ≤ n ∧ i = .int .i64 j ∧ l = .int .i64 (q : Int) ∧ q ≤ 1048576 ∧ Hid (q + n + szL szOm1 (xs.take j) = left) ∧ Below w.heap.size w wr) (fun _ i _ => n - (intOf i).toNat)
    case atStart => exact ⟨0, q0, Nat.zero_le _, rfl, by rw [Hq2.out], hq3, by show _ = _; rw [← Hq1.out]; simp [szL], Below.refl _ _⟩
    case round =>
      obtain ⟨j, q, hj, rfl, rfl, hq, hsum, hB⟩ := hrel
      have hsz := hB.size
      by_cases hlt : j < n
      · have hjx : j < xs.length := by rw [← Hn.out]; exact hlt
        obtain ⟨x, hx⟩ : ∃ x, xs[j]? = some x := ⟨_, List.getElem?_eq_getElem hjx⟩
        obtain ⟨A', rfl, hbl, hc0⟩ := HA.out j x 0 _ hx rfl
        obtain ⟨A'', hAA, _, hc1⟩ := HA.out j x 1 _ hx rfl
        cases hAA
        rw [add_zero'] at hc0
        have hc := (hB.cell (p := A'.add (j * 2)) (by rw [add_block]; exact hbl)).trans hc0
        have hc2 := (hB.cell (p := (A'.add (j * 2)).add 1) (by rw [add_block, add_block]; exact hbl)).trans hc1
        rw [add_one'] at hc2
        have hss := szL_take_succ (sz := szOm1) hx
        have hle := szL_take_le (sz := szOm1) xs (j + 1)
        have hxm := Hwf.out x (List.mem_of_getElem? hx)
        obtain ⟨x1, x2⟩ := x
        obtain ⟨y, hy⟩ : ∃ y, y = x2.size := ⟨_, rfl⟩
        have hsub := fun W => sz_om x1 x2 q W hq hxm
        rw [← hy] at hsub
        rw [show szOm1 (x1, x2) = y from hy.symm] at hss
        have Hss := Lib.hid hss
        have Hle := Lib.hid hle
        clear hss hle hjx hx hy hc0 hc1 hxm
        by_cases hyq : y ≤ q
        · rw [dec_yes hyq] at hsub
          have Hsub := Lib.hid hsub
          obtain ⟨q', hq'⟩ : ∃ q', q' = q - y := ⟨_, rfl⟩
          have hq2 : q' + y = q := by omega
          rw [← hq'] at Hsub
          clear hsub hq'
          go_wp2_with (go_at_call 140; refine (Hsub.out _).mono ?_; rintro e w' ⟨rfl, hb2⟩)
          go_roundw
          case rel => exact ⟨j + 1, q', by omega, by go_num, rfl, by omega, by show _ = _; have := hsum.out; have := Hss.out; omega, hB.trans (hb2.mono hsz)⟩
          case measure => simp [intOf]; omega
        · rw [dec_no hyq] at hsub
          have Hsub := Lib.hid hsub
          have hno : ¬ t ≤ left := by
            have := hsum.out
            have := Hss.out
            have := Hle.out
            have := Ht.out
            omega
          have hd := Lib.hid (dec_no hno)
          clear hsub hyq hno
          go_wp2_with (go_at_call 140; refine (Hsub.out _).mono ?_; rintro e w' ⟨rfl, hb2⟩)
          go_ret
          exact ⟨by rw [hd.out]; rfl, hB.trans (hb2.mono hsz)⟩
      · have e : j = n := by omega
        subst e
        have hall : q + t = left := by
          have h1 := hsum.out
          rw [Hn.out, List.take_length] at h1
          have := Ht.out
          have := Hn.out
          omega
        have hv : ((left - t : Nat) : Int) = (q : Int) := by omega
        have hd := Lib.hid ((dec_yes (left := left) (n := t) (by omega)).trans hv)
        clear hall hv hsum
        go_wp2
        go_ret
        exact ⟨by rw [hd.out]; rfl, hB⟩
  · have h' : left < n := by omega
    have hno : ¬ t ≤ left := by have := Ht.out; omega
    rw [dec_no hno]
    clear h0 hno
    go_enter Try.func114, Try.ntmps114
    go_wp2
    go_ret
    exact ⟨rfl, Below.refl _ _⟩

theorem cells_om : Try.prog.cellsOf 168 = 2 := by kernel_rfl
theorem cells_oms : Try.prog.cellsOf 141 = 1 := by kernel_rfl
theorem cells_ostr : Try.prog.cellsOf 9 = 1 := by kernel_rfl
theorem cells_oint : Try.prog.cellsOf 2 = 1 := by kernel_rfl
section
variable {H : Type} {enc : TypeId × Value → H} {w : World} {held : Bool}
theorem read_ostr {n : Nat} {cs : List Value} {x : DataW H × List MemPlace} (h : DataW.trod enc Try.prog w 0 (fun _ => true) held n 9 cs = some x) : ∃ y : ByteArray, cs = [.string y] ∧ y.size ≤ maxLen := by
  obtain ⟨y, rfl, _, hw⟩ := DataW.trod_string Try.underlying9 h
  exact ⟨y, rfl, hw⟩
set_option maxRecDepth 100000 in
theorem read_om {n : Nat} {cs : List Value} {x : DataW H × List MemPlace} (h : DataW.trod enc Try.prog w 0 (fun _ => true) held n 168 cs = some x) : ∃ y : Int × ByteArray, cs = [.int .i64 y.1, .string y.2] ∧ y.2.size ≤ maxLen := by
  obtain ⟨xs, m, _, _, hl, hxl, hf⟩ := DataW.trod_struct Try.underlying168 h
  rw [cells_om] at hl
  have h0 : DataW.trod enc Try.prog w 0 (fun _ => true) held m 2 ((cs.drop 0).take (Try.prog.cellsOf 2)) = xs[0]? := hf 0 _ rfl
  have h1 : DataW.trod enc Try.prog w 0 (fun _ => true) held m 9 ((cs.drop 1).take (Try.prog.cellsOf 9)) = xs[1]? := hf 1 _ rfl
  rw [cells_oint] at h0
  rw [cells_ostr] at h1
  match cs, hl with
  | [c0, c1], _ =>
    have hx0 : xs[0]? = some (xs[0]'(by rw [hxl]; decide)) := List.getElem?_eq_getElem _
    have hx1 : xs[1]? = some (xs[1]'(by rw [hxl]; decide)) := List.getElem?_eq_getElem _
    rw [hx0] at h0
    rw [hx1] at h1
    obtain ⟨a, ha, wa⟩ := read_int h0
    obtain ⟨b, hb, wb⟩ := read_ostr h1
    simp only [List.drop_zero, List.take_succ_cons, List.take_zero, List.cons.injEq, and_true] at ha
    simp only [List.drop_succ_cons, List.drop_zero, List.take_succ_cons, List.take_zero, List.cons.injEq, and_true] at hb
    exact ⟨(a, b), by rw [ha, hb], wb⟩
theorem read_oms {n : Nat} {v : Value} {x : DataW H × List MemPlace} (h : DataW.trod enc Try.prog w 0 (fun _ => true) held n 141 [v] = some x) : ∃ y, OmR w v y ∧ WfOm y := by
  obtain ⟨y, h1, h2⟩ := open_row (en := fun x : Int × ByteArray => [.int .i64 x.1, .string x.2]) (wf := fun y => y.2.size ≤ maxLen) Try.underlying141 cells_om (fun _ _ _ h => read_om h) h
  exact ⟨y, ⟨h1, h2⟩, h2⟩
end

set_option maxHeartbeats 1600000 in
set_option maxRecDepth 100000 in
theorem mark_oms {base : Nat} {v : Value} {xs : List (Int × ByteArray)} {bs : List Nat} (k0 : Nat) (w : World) (hn : xs.length ≤ 1048576) (hk0 : k0 ≤ 8388608) (ha : OmE base w v xs bs) :
    Calls Try.prog 97 #[v, .int .i64 (k0 : Int)] w (MarkPost (OmE base) v (mkOm k0 xs) bs (k0 + 2 * xs.length) w) := by
  obtain ⟨A, ca, rfl⟩ := ha.slice
  obtain ⟨n, hn'⟩ : ∃ n, n = xs.length := ⟨_, rfl⟩
  have Hn := Lib.hid hn'
  rw [← hn'] at ha hn ⊢
  clear hn'
  go_enter Try.func97, Try.ntmps97
  go_wp2
  go_loopw [1, 5] (fun kk i wr => ∃ j : Nat, j ≤ n ∧ i = .int .i64 j ∧ kk = .int .i64 ((k0 : Int) + 2 * (j : Int)) ∧ OmE base wr (.slice A n ca) (front (mkOm k0 xs) xs j) bs ∧ Turned bs w wr) (fun _ i _ => n - (intOf i).toNat)
  case atStart => exact ⟨0, Nat.zero_le _, rfl, by go_num, by rw [front_zero]; exact ha, Turned.refl _ _⟩
  case round =>
    obtain ⟨j, hj, rfl, rfl, hE, hT⟩ := hrel
    by_cases hlt : j < n
    · have hjx : j < xs.length := by rw [← Hn.out]; exact hlt
      have hjf : j < (front (mkOm k0 xs) xs j).length := by rw [front_len _ _ (mkOm_len _ _)]; exact hjx
      obtain ⟨g, rfl, hg, hbs⟩ := RowE.head hE hjf
      subst hbs
      obtain ⟨y, hx⟩ : ∃ y, (front (mkOm k0 xs) xs j)[j]? = some y := ⟨_, List.getElem?_eq_getElem hjf⟩
      have hc := (OmE.cell' hE hx).1
      have hf := RowE.frozen hE (j * 2)
      obtain ⟨t1, ht1⟩ : ∃ t : ByteArray, t = mtS (k0 + 2 * j + 1) := ⟨_, rfl⟩
      have hmt := fun W => mark_textO (k0 + 2 * j + 1) W (by omega)
      rw [← ht1, show ((k0 + 2 * j + 1 : Nat) : Int) = (k0 : Int) + 2 * (j : Int) + 1 from by omega] at hmt
      have hE1 : (wr.setCell ⟨g, j * 2, none⟩ (.int .i64 ((k0 : Int) + 2 * (j : Int)))).ownsRow base 78 2 (.slice (some ⟨g, 0, none⟩) n ca) (front (mkOm k0 xs) xs j).length (((front (mkOm k0 xs) xs j).flatMap fun x => [Value.int .i64 x.1, .string x.2]).set (j * 2) (.int .i64 ((k0 : Int) + 2 * (j : Int)))) ∧ wr.grownBy (wr.setCell ⟨g, j * 2, none⟩ (.int .i64 ((k0 : Int) + 2 * (j : Int)))) (some g) := by
        have hl := hE.len_
        subst hl
        exact hE.1.stored (j * 2) (.int .i64 ((k0 : Int) + 2 * (j : Int)))
      have hfin : ∀ w2, Below (wr.setCell ⟨g, j * 2, none⟩ (.int .i64 ((k0 : Int) + 2 * (j : Int)))).heap.size (wr.setCell ⟨g, j * 2, none⟩ (.int .i64 ((k0 : Int) + 2 * (j : Int)))) w2 → OmE base (w2.setCell ⟨g, j * 2 + 1, none⟩ (.string t1)) (.slice (some ⟨g, 0, none⟩) n ca) (front (mkOm k0 xs) xs (j + 1)) [g] ∧ Turned [g] w (w2.setCell ⟨g, j * 2 + 1, none⟩ (.string t1)) := by
        intro w2 hb
        have hl := hE.len_
        have h2 := row_below hE1.1 hb
        rw [← hl] at h2
        have h3 := h2.stored (j * 2 + 1) (.string t1)
        have e : (((front (mkOm k0 xs) xs j).flatMap fun x => [Value.int .i64 x.1, .string x.2]).set (j * 2) (.int .i64 ((k0 : Int) + 2 * (j : Int)))).set (j * 2 + 1) (.string t1) = (front (mkOm k0 xs) xs (j + 1)).flatMap fun x => [Value.int .i64 x.1, .string x.2] := by
          have := flat_set2 (f := fun x : Int × ByteArray => Value.int .i64 x.1) (g := fun x : Int × ByteArray => Value.string x.2) (front (mkOm k0 xs) xs j) j ((k0 : Int) + 2 * (j : Int), t1)
          rw [Nat.mul_comm 2 j] at this
          rw [this, front_set _ _ (mkOm_len _ _) (by rw [mkOm_at k0 xs j hjx, ht1])]
        rw [e] at h3
        refine ⟨⟨?_, rfl⟩, ?_⟩
        · rw [show (front (mkOm k0 xs) xs (j + 1)).length = n by rw [front_len _ _ (mkOm_len _ _)]; exact Hn.out.symm]
          exact h3.1
        · exact ((hT.trans (Turned.of_grown hE1.2 (fun r hr => by cases hr; simp))).trans (Turned.of_below hb)).trans (Turned.of_grown h3.2 (fun r hr => by cases hr; simp))
      have hcel : ∀ w2, Below (wr.setCell ⟨g, j * 2, none⟩ (.int .i64 ((k0 : Int) + 2 * (j : Int)))).heap.size (wr.setCell ⟨g, j * 2, none⟩ (.int .i64 ((k0 : Int) + 2 * (j : Int)))) w2 → (∃ u, w2.cell? ⟨g, j * 2 + 1, none⟩ = some u) ∧ w2.frozen? ⟨g, j * 2 + 1, none⟩ = false := by
        intro w2 hb
        have hl := hE.len_
        have h2 := row_below hE1.1 hb
        rw [← hl] at h2
        refine ⟨?_, h2.frozenAt _⟩
        have h3 := h2.1
        rw [h2.cellAt _ (by omega), List.getElem?_eq_getElem (by rw [h3]; omega)]
        exact ⟨_, rfl⟩
      have Hfin := Lib.hid hfin
      have Hcel := Lib.hid hcel
      have Hmt := Lib.hid hmt
      clear hfin hcel hmt hE1 ht1 hjx hjf hx hE hT
      go_wp2_with fail
      refine (Hmt.out _).mono ?_
      rintro e w2 ⟨rfl, hb2⟩
      obtain ⟨hR, hT2⟩ := Hfin.out _ hb2
      obtain ⟨⟨u, hcu⟩, hfu⟩ := Hcel.out _ hb2
      have HR := Lib.hid (And.intro hR hT2)
      clear hR hT2 hb2
      go_wp2
      go_roundw
      case rel => exact ⟨j + 1, by omega, by go_num, by go_num, HR.out.1, HR.out.2⟩
      case measure => simp [intOf]; omega
    · have e : j = n := by omega
      subst e
      go_wp2
      go_ret
      rw [Hn.out] at hE
      rw [front_all _ _ (mkOm_len _ _)] at hE
      rw [← Hn.out] at hE
      exact ⟨by go_num, hE, hT⟩

set_option maxHeartbeats 1600000 in
set_option maxRecDepth 100000 in
theorem held_oms {base : Nat} {v : Value} {xs : List (Int × ByteArray)} {bs : List Nat} (k0 : Nat) (w : World) (hn : xs.length ≤ 1048576) (hk0 : k0 ≤ 8388608) (ha : OmE base w v (mkOm k0 xs) bs) :
    Calls Try.prog 99 #[v, .int .i64 (k0 : Int)] w (SeenPost (.int .i64 ((k0 + 2 * xs.length : Nat) : Int)) w) := by
  obtain ⟨A, ca, rfl⟩ := ha.slice
  rw [mkOm_len] at ha ⊢
  obtain ⟨n, hn'⟩ : ∃ n, n = xs.length := ⟨_, rfl⟩
  have Hn := Lib.hid hn'
  rw [← hn'] at ha hn ⊢
  clear hn'
  go_enter Try.func99, Try.ntmps99
  go_wp2
  go_loopw [1, 5] (fun kk i wr => ∃ j : Nat, j ≤ n ∧ i = .int .i64 j ∧ kk = .int .i64 ((k0 : Int) + 2 * (j : Int)) ∧ Below w.heap.size w wr) (fun _ i _ => n - (intOf i).toNat)
  case atStart => exact ⟨0, Nat.zero_le _, rfl, by go_num, Below.refl _ _⟩
  case round =>
    obtain ⟨j, hj, rfl, rfl, hB⟩ := hrel
    by_cases hlt : j < n
    · have hjx : j < xs.length := by rw [← Hn.out]; exact hlt
      obtain ⟨g, rfl, hg, _⟩ := RowE.head ha (by rw [mkOm_len]; exact hjx)
      have hx := mkOm_at k0 xs j hjx
      have hc := (hB.cell (p := ⟨g, j * 2, none⟩) hg).trans (OmE.cell' ha hx).1
      have hc2 := (hB.cell (p := ⟨g, j * 2 + 1, none⟩) hg).trans (OmE.cell' ha hx).2
      have hmt := fun W => mark_textO (k0 + 2 * j + 1) W (by omega)
      rw [show ((k0 + 2 * j + 1 : Nat) : Int) = (k0 : Int) + 2 * (j : Int) + 1 from by omega] at hmt
      obtain ⟨t, ht⟩ : ∃ t, mtS (k0 + 2 * j + 1) = t := ⟨_, rfl⟩
      rw [ht] at hmt hc2
      have Hmt := Lib.hid hmt
      have hs := hB.size
      have hmx : Try.prog.follows .mixedOrders = true := by kernel_rfl
      clear hjx hx hmt ht
      go_wp2
      go_region_with (go_at_call 137; refine (Hmt.out _).mono ?_; rintro e w2 ⟨rfl, hb⟩; have hc3 := (hb.cell (p := ⟨g, j * 2 + 1, none⟩) (by show g < wr.heap.size; omega)).trans hc2)
      all_goals
        have hB2 := hB.drew.trans (hb.mono hs)
        go_wp2
        go_roundw
        case rel => exact ⟨j + 1, by omega, by go_num, by go_num, by first | exact hB2 | exact hB2.drew⟩
        case measure => simp [intOf]; omega
    · have e : j = n := by omega
      subst e
      go_wp2
      go_ret
      exact ⟨by go_num, hB⟩
end Go.Proofs.Ytmkamodmnplclaa
