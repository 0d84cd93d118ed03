/- Rows of rows of moves that write. -/
import Derived.Test.YtmkamodmnplclaaOm
import Derived.Test.YtmkamodmnplclaaOp
namespace Go.Proofs.Ytmkamodmnplclaa
open Go.RowKit Go.ChangeShapes Go.WideShapes Go.Deep
set_option linter.unusedVariables false

abbrev Om2E (base : Nat) : EP (List (List (Int × ByteArray))) := ManyE base 79 (OmE base)
abbrev Om3E (base : Nat) : EP (List (List (List (Int × ByteArray)))) := ManyE base 34 (Om2E base)
abbrev Op2E (base : Nat) : EP (List (List (Int × Int × ByteArray))) := ManyE base 76 (OpE base)
theorem om2_ok (base : Nat) : EP.Ok base (Om2E base) := ManyE.ok _ (om_ok base)
theorem om3_ok (base : Nat) : EP.Ok base (Om3E base) := ManyE.ok _ (om2_ok base)
theorem op2_ok (base : Nat) : EP.Ok base (Op2E base) := ManyE.ok _ (op_ok base)
abbrev mkOm2 := mkL mkOm lenOm
abbrev mkOm3 := mkL mkOm2 (szL lenOm)
abbrev mkOp2 := mkL mkOp lenOp
abbrev Om2R : RP (List (List (Int × ByteArray))) := ManyR OmR
abbrev Om3R : RP (List (List (List (Int × ByteArray)))) := ManyR Om2R
abbrev Op2R : RP (List (List (Int × Int × ByteArray))) := ManyR OpR
theorem oms2_r : RP.Ok Om2R := ManyR.ok oms_r
theorem oms3_r : RP.Ok Om3R := ManyR.ok oms2_r
theorem ops2_r : RP.Ok Op2R := ManyR.ok ops_r
theorem toInfo_oms : (Try.prog.info? 79).map (fun i => (i.zero, i.size, i.bytes)) = some (some (.slice none 0 0), 1, 24) := by kernel_rfl
theorem toInfo_oms2 : (Try.prog.info? 34).map (fun i => (i.zero, i.size, i.bytes)) = some (some (.slice none 0 0), 1, 24) := by kernel_rfl
theorem toInfo_ops : (Try.prog.info? 76).map (fun i => (i.zero, i.size, i.bytes)) = some (some (.slice none 0 0), 1, 24) := by kernel_rfl
theorem oms2_base {b b' : Nat} (hb : b' ≤ b) (w : World) (v : Value) (x : List (List (Int × ByteArray))) (bs : List Nat) (h : Om2E b w v x bs) : Om2E b' w v x bs := manyE_base (oms_base hb) h hb
theorem oms3_base {b b' : Nat} (hb : b' ≤ b) (w : World) (v : Value) (x : List (List (List (Int × ByteArray)))) (bs : List Nat) (h : Om3E b w v x bs) : Om3E b' w v x bs := manyE_base (oms2_base hb) h hb
theorem ops2_base {b b' : Nat} (hb : b' ≤ b) (w : World) (v : Value) (x : List (List (Int × Int × ByteArray))) (bs : List Nat) (h : Op2E b w v x bs) : Op2E b' w v x bs := manyE_base (ops_base hb) h hb
def cntOm2 (xs : List (List (Int × ByteArray))) : Nat := xs.length + szL cntOm xs
def cntOm3 (xs : List (List (List (Int × ByteArray)))) : Nat := xs.length + szL cntOm2 xs
def cntOp2 (xs : List (List (Int × Int × ByteArray))) : Nat := xs.length + szL cntOp xs
theorem cells_oms_row : Try.prog.cellsOf 141 = 1 := by kernel_rfl
theorem cells_oms2_row : Try.prog.cellsOf 46 = 1 := by kernel_rfl
theorem cells_ops_row : Try.prog.cellsOf 139 = 1 := by kernel_rfl
section
variable {H : Type} {enc : TypeId × Value → H} {w : World} {held : Bool}
theorem read_oms2 {n : Nat} {v : Value} {x : DataW H × List MemPlace} (h : DataW.trod enc Try.prog w 0 (fun _ => true) held n 46 [v] = some x) : ∃ y, Om2R w v y ∧ ∀ z ∈ y, WfOm z :=
  open_many Try.underlying46 cells_oms_row (fun _ _ _ h => read_oms h) h
theorem read_oms3 {n : Nat} {v : Value} {x : DataW H × List MemPlace} (h : DataW.trod enc Try.prog w 0 (fun _ => true) held n 45 [v] = some x) : ∃ y, Om3R w v y ∧ ∀ z ∈ y, ∀ u ∈ z, WfOm u :=
  open_many Try.underlying45 cells_oms2_row (fun _ _ _ h => read_oms2 h) h
theorem read_ops2 {n : Nat} {v : Value} {x : DataW H × List MemPlace} (h : DataW.trod enc Try.prog w 0 (fun _ => true) held n 44 [v] = some x) : ∃ y, Op2R w v y ∧ ∀ z ∈ y, WfOp z :=
  open_many Try.underlying44 cells_ops_row (fun _ _ _ h => read_ops h) h
end
theorem bd2_oms {xs : List (List (Int × ByteArray))} (h : cntOm2 xs ≤ 1048576) : Bd2 xs := by
  unfold cntOm2 at h
  refine ⟨by omega, fun x hx => bd_oms ?_⟩
  have m := szL_mem (sz := cntOm) _ _ hx
  omega
theorem bd3_oms {xs : List (List (List (Int × ByteArray)))} (h : cntOm3 xs ≤ 1048576) : Bd3 xs := by
  unfold cntOm3 at h
  refine ⟨by omega, fun x hx => bd2_oms ?_⟩
  have m := szL_mem (sz := cntOm2) _ _ hx
  omega
theorem bd2_ops {xs : List (List (Int × Int × ByteArray))} (h : cntOp2 xs ≤ 1048576) : Bd2 xs := by
  unfold cntOp2 at h
  refine ⟨by omega, fun x hx => bd_ops ?_⟩
  have m := szL_mem (sz := cntOp) _ _ hx
  omega
theorem szL_le3 {α : Type} {f g : α → Nat} (h : ∀ x, f x ≤ 3 * g x) (xs : List α) : szL f xs ≤ 3 * szL g xs := by
  induction xs with
  | nil => exact Nat.zero_le _
  | cons y xs ih =>
    simp only [szL, List.map_cons, List.sum_cons] at ih ⊢
    have := h y
    omega
theorem le_oms2 (xs : List (List (Int × ByteArray))) : szL lenOm xs ≤ 2 * cntOm2 xs := by have := szL_le2 le_oms xs; unfold cntOm2; omega
theorem le_oms3 (xs : List (List (List (Int × ByteArray)))) : szL (szL lenOm) xs ≤ 2 * cntOm3 xs := by have := szL_le2 le_oms2 xs; unfold cntOm3; omega
theorem le_ops2 (xs : List (List (Int × Int × ByteArray))) : szL lenOp xs ≤ 3 * cntOp2 xs := by have := szL_le3 le_ops xs; unfold cntOp2; omega


set_option maxHeartbeats 1600000 in
set_option maxRecDepth 100000 in
theorem eq_oms2 {base base' : Nat} {v v' : Value} {xs : List (List (Int × ByteArray))} {bs bs' : List Nat} (w : World) (hn : Bd2 xs) (ha : Om2E base w v xs bs) (hb : Om2E base' w v' xs bs') :
    Calls Try.prog 48 #[v, v'] w (SeenPost (.bool true) w) := by
  obtain ⟨A, ca, rfl⟩ := ha.slice
  obtain ⟨B, cb, rfl⟩ := hb.slice
  obtain ⟨hn1, hn2⟩ := hn
  obtain ⟨n, hn'⟩ : ∃ n, n = xs.length := ⟨_, rfl⟩
  have Hn := Lib.hid hn'
  have Hn2 := Lib.hid hn2
  rw [← hn'] at ha hb hn1 ⊢
  clear hn' hn2
  go_enter Try.func48, Try.ntmps48
  go_wp2
  go_loopw [5] (fun i wr => ∃ k : Nat, k ≤ n ∧ i = .int .i64 k ∧ Below w.heap.size w wr) (fun i _ => n - (intOf i).toNat)
  case atStart => exact ⟨0, Nat.zero_le _, rfl, Below.refl _ _⟩
  case round =>
    obtain ⟨k, hk, rfl, hB⟩ := hrel
    by_cases hlt : k < n
    · have hkx : k < xs.length := by rw [← Hn.out]; exact hlt
      obtain ⟨x, hx⟩ : ∃ x, xs[k]? = some x := ⟨_, List.getElem?_eq_getElem hkx⟩
      obtain ⟨g, c, u, cs, hv, hc, hE, hg, _⟩ := ha.at_ (om_ok _) hx
      obtain ⟨g', c', u', cs', hv', hc', hE', hg', _⟩ := hb.at_ (om_ok _) hx
      simp only [Value.slice.injEq] at hv hv'
      obtain ⟨rfl, h9, rfl⟩ := hv
      clear h9
      obtain ⟨rfl, h9, rfl⟩ := hv'
      clear h9
      have hc1 := (hB.cell (p := ⟨g, k, none⟩) hg).trans hc
      have hc2 := (hB.cell (p := ⟨g', k, none⟩) hg').trans hc'
      have hs := hB.size
      have hq := fun (W : World) (hw : Below w.heap.size w W) => eq_oms W (Hn2.out x (List.mem_of_getElem? hx)) ((om_ok _).later hE hw) ((om_ok _).later hE' hw)
      have Hq := Lib.hid hq
      have hmx : Try.prog.follows .mixedOrders = true := by kernel_rfl
      clear hkx hx hc hc' hq hE hE'
      go_wp2
      go_region_with (go_at_call 95; refine (Hq.out _ (by first | exact hB.drew | exact hB)).mono ?_; rintro e w2 ⟨rfl, hb2⟩)
      all_goals
        go_wp2
        go_roundw
        case rel => exact ⟨k + 1, by omega, by go_num, by first | exact hB.drew.trans (hb2.mono hs) | exact hB.trans (hb2.mono hs)⟩
        case measure => simp [intOf]; omega
    · go_wp2
      go_ret
      exact ⟨rfl, hB⟩

set_option maxHeartbeats 1600000 in
set_option maxRecDepth 100000 in
theorem mark_oms2 {base : Nat} {v : Value} {xs : List (List (Int × ByteArray))} {bs : List Nat} (k0 : Nat) (w : World) (hn : Bd2 xs) (hk0 : k0 + szL lenOm xs ≤ 8388608) (ha : Om2E base w v xs bs) :
    Calls Try.prog 51 #[v, .int .i64 (k0 : Int)] w (MarkPost (Om2E base) v (mkOm2 k0 xs) bs (k0 + szL lenOm xs) w) := by
  obtain ⟨A, ca, rfl⟩ := ha.slice
  obtain ⟨hn1, hn2⟩ := hn
  obtain ⟨n, hn'⟩ : ∃ n, n = xs.length := ⟨_, rfl⟩
  obtain ⟨t, ht⟩ : ∃ t, t = k0 + szL lenOm xs := ⟨_, rfl⟩
  have Hn := Lib.hid hn'
  have Ht := Lib.hid ht
  have Hn2 := Lib.hid hn2
  rw [← hn'] at ha hn1 ⊢
  rw [← ht] at hk0 ⊢
  have hq0 : k0 ≤ t := by rw [ht]; omega
  have hle : Hid (∀ j, k0 + szL lenOm (xs.take j) ≤ t) := by intro j; have := szL_take_le (sz := lenOm) xs j; rw [ht]; omega
  clear hn' hn2 ht
  go_enter Try.func51, Try.ntmps51
  go_wp2
  go_loopw [1, 5] (fun kk i wr => ∃ j q : Nat, j ≤ n ∧ i = .int .i64 j ∧ kk = .int .i64 (q : Int) ∧ Hid (q = k0 + szL lenOm (xs.take j)) ∧ Om2E base wr (.slice A n ca) (half mkOm lenOm k0 xs j) bs ∧ Turned bs w wr) (fun _ i _ => n - (intOf i).toNat)
  case atStart => exact ⟨0, k0, Nat.zero_le _, rfl, rfl, by show _ = _; simp [szL], by rw [half_zero]; exact ha, Turned.refl _ _⟩
  case round =>
    obtain ⟨j, q, hj, rfl, rfl, hq, hE, hT⟩ := hrel
    have hqt : q ≤ t := by rw [hq.out]; exact hle.out j
    by_cases hlt : j < n
    · have hjx : j < xs.length := by rw [← Hn.out]; exact hlt
      obtain ⟨x, hx⟩ : ∃ x, xs[j]? = some x := ⟨_, List.getElem?_eq_getElem hjx⟩
      obtain ⟨g, c, u, cs, hv, hc, hu, hg, hturn⟩ := hE.at_ (om_ok _) (half_at hx)
      simp only [Value.slice.injEq] at hv
      obtain ⟨rfl, h9, rfl⟩ := hv
      clear h9
      have hq2 : Hid (q + lenOm x = k0 + szL lenOm (xs.take (j + 1))) := by show _ = _; rw [szL_take_succ hx, hq.out]; omega
      have hq3 : q + lenOm x ≤ t := by rw [hq2.out]; exact hle.out (j + 1)
      have hm := mark_oms q wr (Hn2.out x (List.mem_of_getElem? hx)) (by first | omega | (show q + _ ≤ _; omega)) hu
      have hset := half_set (mk := mkOm) (sz := lenOm) (k := k0) hx
      rw [← hq.out] at hset
      have Hset := Lib.hid hset
      have Hm := Lib.hid hm
      have Hturn := Lib.hid hturn
      clear hset hm hturn hx hjx hu
      go_wp2_with (go_at_call 97; refine Hm.out.mono ?_; rintro e w2 ⟨rfl, hu2, ht2⟩)
      obtain ⟨hE2, hT2⟩ := Hturn.out w2 _ ht2 hu2
      rw [Hset.out] at hE2
      go_roundw
      case rel => exact ⟨j + 1, q + lenOm x, by omega, by go_num, by first | rfl | go_num, hq2, hE2, hT.trans hT2⟩
      case measure => simp [intOf]; omega
    · have e : j = n := by omega
      subst e
      have hqe : q = t := by rw [hq.out, Ht.out, Hn.out, List.take_length]
      subst hqe
      clear hlt hq hqt hq0
      go_wp2
      go_ret
      rw [Hn.out, half_all, ← Hn.out] at hE
      exact ⟨rfl, hE, hT⟩

set_option maxHeartbeats 1600000 in
set_option maxRecDepth 100000 in
theorem held_oms2 {base : Nat} {v : Value} {xs : List (List (Int × ByteArray))} {bs : List Nat} (k0 : Nat) (w : World) (hn : Bd2 xs) (hk0 : k0 + szL lenOm xs ≤ 8388608) (ha : Om2E base w v (mkOm2 k0 xs) bs) :
    Calls Try.prog 54 #[v, .int .i64 (k0 : Int)] w (SeenPost (.int .i64 ((k0 + szL lenOm xs : Nat) : Int)) w) := by
  obtain ⟨A, ca, rfl⟩ := ha.slice
  rw [mkL_len] at ha ⊢
  obtain ⟨hn1, hn2⟩ := hn
  obtain ⟨n, hn'⟩ : ∃ n, n = xs.length := ⟨_, rfl⟩
  obtain ⟨t, ht⟩ : ∃ t, t = k0 + szL lenOm xs := ⟨_, rfl⟩
  have Hn := Lib.hid hn'
  have Ht := Lib.hid ht
  have Hn2 := Lib.hid hn2
  rw [← hn'] at ha hn1 ⊢
  rw [← ht] at hk0 ⊢
  have hq0 : k0 ≤ t := by rw [ht]; omega
  have hle : Hid (∀ j, k0 + szL lenOm (xs.take j) ≤ t) := by intro j; have := szL_take_le (sz := lenOm) xs j; rw [ht]; omega
  clear hn' hn2 ht
  go_enter Try.func54, Try.ntmps54
  go_wp2
  go_loopw [1, 5] (fun kk i wr => ∃ j q : Nat, j ≤ n ∧ i = .int .i64 j ∧ kk = .int .i64 (q : Int) ∧ Hid (q = k0 + szL lenOm (xs.take j)) ∧ Below w.heap.size w wr) (fun _ i _ => n - (intOf i).toNat)
  case atStart => exact ⟨0, k0, Nat.zero_le _, rfl, rfl, by show _ = _; simp [szL], Below.refl _ _⟩
  case round =>
    obtain ⟨j, q, hj, rfl, rfl, hq, hB⟩ := hrel
    have hqt : q ≤ t := by rw [hq.out]; exact hle.out j
    by_cases hlt : j < n
    · have hjx : j < xs.length := by rw [← Hn.out]; exact hlt
      obtain ⟨x, hx⟩ : ∃ x, xs[j]? = some x := ⟨_, List.getElem?_eq_getElem hjx⟩
      have hmk := mkL_at (mk := mkOm) (sz := lenOm) (k := k0) hx
      rw [← hq.out] at hmk
      obtain ⟨g, c, u, cs, hv, hc, hu, hg, _⟩ := ha.at_ (om_ok _) hmk
      simp only [Value.slice.injEq] at hv
      obtain ⟨rfl, h9, rfl⟩ := hv
      clear h9
      have hc1 := (hB.cell (p := ⟨g, j, none⟩) hg).trans hc
      have hs := hB.size
      have hq2 : Hid (q + lenOm x = k0 + szL lenOm (xs.take (j + 1))) := by show _ = _; rw [szL_take_succ hx, hq.out]; omega
      have hq3 : q + lenOm x ≤ t := by rw [hq2.out]; exact hle.out (j + 1)
      have hm := held_oms q wr (Hn2.out x (List.mem_of_getElem? hx)) (by first | omega | (show q + _ ≤ _; omega)) ((om_ok _).later hu hB)
      have Hm := Lib.hid hm
      clear hmk hm hx hjx hu hc
      go_wp2_with (go_at_call 99; refine Hm.out.mono ?_; rintro e w2 ⟨rfl, hb2⟩)
      go_roundw
      case rel => exact ⟨j + 1, q + lenOm x, by omega, by go_num, by first | rfl | go_num, hq2, hB.trans (hb2.mono hs)⟩
      case measure => simp [intOf]; omega
    · have e : j = n := by omega
      subst e
      have hqe : q = t := by rw [hq.out, Ht.out, Hn.out, List.take_length]
      subst hqe
      clear hlt hq hqt hq0
      go_wp2
      go_ret
      exact ⟨rfl, hB⟩

set_option maxHeartbeats 1600000 in
set_option maxRecDepth 100000 in
theorem eq_oms3 {base base' : Nat} {v v' : Value} {xs : List (List (List (Int × ByteArray)))} {bs bs' : List Nat} (w : World) (hn : Bd3 xs) (ha : Om3E base w v xs bs) (hb : Om3E base' w v' xs bs') :
    Calls Try.prog 47 #[v, v'] w (SeenPost (.bool true) w) := by
  obtain ⟨A, ca, rfl⟩ := ha.slice
  obtain ⟨B, cb, rfl⟩ := hb.slice
  obtain ⟨hn1, hn2⟩ := hn
  obtain ⟨n, hn'⟩ : ∃ n, n = xs.length := ⟨_, rfl⟩
  have Hn := Lib.hid hn'
  have Hn2 := Lib.hid hn2
  rw [← hn'] at ha hb hn1 ⊢
  clear hn' hn2
  go_enter Try.func47, Try.ntmps47
  go_wp2
  go_loopw [5] (fun i wr => ∃ k : Nat, k ≤ n ∧ i = .int .i64 k ∧ Below w.heap.size w wr) (fun i _ => n - (intOf i).toNat)
  case atStart => exact ⟨0, Nat.zero_le _, rfl, Below.refl _ _⟩
  case round =>
    obtain ⟨k, hk, rfl, hB⟩ := hrel
    by_cases hlt : k < n
    · have hkx : k < xs.length := by rw [← Hn.out]; exact hlt
      obtain ⟨x, hx⟩ : ∃ x, xs[k]? = some x := ⟨_, List.getElem?_eq_getElem hkx⟩
      obtain ⟨g, c, u, cs, hv, hc, hE, hg, _⟩ := ha.at_ (om2_ok _) hx
      obtain ⟨g', c', u', cs', hv', hc', hE', hg', _⟩ := hb.at_ (om2_ok _) hx
      simp only [Value.slice.injEq] at hv hv'
      obtain ⟨rfl, h9, rfl⟩ := hv
      clear h9
      obtain ⟨rfl, h9, rfl⟩ := hv'
      clear h9
      have hc1 := (hB.cell (p := ⟨g, k, none⟩) hg).trans hc
      have hc2 := (hB.cell (p := ⟨g', k, none⟩) hg').trans hc'
      have hs := hB.size
      have hq := fun (W : World) (hw : Below w.heap.size w W) => eq_oms2 W (Hn2.out x (List.mem_of_getElem? hx)) ((om2_ok _).later hE hw) ((om2_ok _).later hE' hw)
      have Hq := Lib.hid hq
      have hmx : Try.prog.follows .mixedOrders = true := by kernel_rfl
      clear hkx hx hc hc' hq hE hE'
      go_wp2
      go_region_with (go_at_call 48; refine (Hq.out _ (by first | exact hB.drew | exact hB)).mono ?_; rintro e w2 ⟨rfl, hb2⟩)
      all_goals
        go_wp2
        go_roundw
        case rel => exact ⟨k + 1, by omega, by go_num, by first | exact hB.drew.trans (hb2.mono hs) | exact hB.trans (hb2.mono hs)⟩
        case measure => simp [intOf]; omega
    · go_wp2
      go_ret
      exact ⟨rfl, hB⟩

set_option maxHeartbeats 1600000 in
set_option maxRecDepth 100000 in
theorem mark_oms3 {base : Nat} {v : Value} {xs : List (List (List (Int × ByteArray)))} {bs : List Nat} (k0 : Nat) (w : World) (hn : Bd3 xs) (hk0 : k0 + szL (szL lenOm) xs ≤ 8388608) (ha : Om3E base w v xs bs) :
    Calls Try.prog 50 #[v, .int .i64 (k0 : Int)] w (MarkPost (Om3E base) v (mkOm3 k0 xs) bs (k0 + szL (szL lenOm) xs) w) := by
  obtain ⟨A, ca, rfl⟩ := ha.slice
  obtain ⟨hn1, hn2⟩ := hn
  obtain ⟨n, hn'⟩ : ∃ n, n = xs.length := ⟨_, rfl⟩
  obtain ⟨t, ht⟩ : ∃ t, t = k0 + szL (szL lenOm) xs := ⟨_, rfl⟩
  have Hn := Lib.hid hn'
  have Ht := Lib.hid ht
  have Hn2 := Lib.hid hn2
  rw [← hn'] at ha hn1 ⊢
  rw [← ht] at hk0 ⊢
  have hq0 : k0 ≤ t := by rw [ht]; omega
  have hle : Hid (∀ j, k0 + szL (szL lenOm) (xs.take j) ≤ t) := by intro j; have := szL_take_le (sz := (szL lenOm)) xs j; rw [ht]; omega
  clear hn' hn2 ht
  go_enter Try.func50, Try.ntmps50
  go_wp2
  go_loopw [1, 5] (fun kk i wr => ∃ j q : Nat, j ≤ n ∧ i = .int .i64 j ∧ kk = .int .i64 (q : Int) ∧ Hid (q = k0 + szL (szL lenOm) (xs.take j)) ∧ Om3E base wr (.slice A n ca) (half mkOm2 (szL lenOm) k0 xs j) bs ∧ Turned bs w wr) (fun _ i _ => n - (intOf i).toNat)
  case atStart => exact ⟨0, k0, Nat.zero_le _, rfl, rfl, by show _ = _; simp [szL], by rw [half_zero]; exact ha, Turned.refl _ _⟩
  case round =>
    obtain ⟨j, q, hj, rfl, rfl, hq, hE, hT⟩ := hrel
    have hqt : q ≤ t := by rw [hq.out]; exact hle.out j
    by_cases hlt : j < n
    · have hjx : j < xs.length := by rw [← Hn.out]; exact hlt
      obtain ⟨x, hx⟩ : ∃ x, xs[j]? = some x := ⟨_, List.getElem?_eq_getElem hjx⟩
      obtain ⟨g, c, u, cs, hv, hc, hu, hg, hturn⟩ := hE.at_ (om2_ok _) (half_at hx)
      simp only [Value.slice.injEq] at hv
      obtain ⟨rfl, h9, rfl⟩ := hv
      clear h9
      have hq2 : Hid (q + (szL lenOm) x = k0 + szL (szL lenOm) (xs.take (j + 1))) := by show _ = _; rw [szL_take_succ hx, hq.out]; omega
      have hq3 : q + (szL lenOm) x ≤ t := by rw [hq2.out]; exact hle.out (j + 1)
      have hm := mark_oms2 q wr (Hn2.out x (List.mem_of_getElem? hx)) (by first | omega | (show q + _ ≤ _; omega)) hu
      have hset := half_set (mk := mkOm2) (sz := (szL lenOm)) (k := k0) hx
      rw [← hq.out] at hset
      have Hset := Lib.hid hset
      have Hm := Lib.hid hm
      have Hturn := Lib.hid hturn
      clear hset hm hturn hx hjx hu
      go_wp2_with (go_at_call 51; refine Hm.out.mono ?_; rintro e w2 ⟨rfl, hu2, ht2⟩)
      obtain ⟨hE2, hT2⟩ := Hturn.out w2 _ ht2 hu2
      rw [Hset.out] at hE2
      go_roundw
      case rel => exact ⟨j + 1, q + (szL lenOm) x, by omega, by go_num, by first | rfl | go_num, hq2, hE2, hT.trans hT2⟩
      case measure => simp [intOf]; omega
    · have e : j = n := by omega
      subst e
      have hqe : q = t := by rw [hq.out, Ht.out, Hn.out, List.take_length]
      subst hqe
      clear hlt hq hqt hq0
      go_wp2
      go_ret
      rw [Hn.out, half_all, ← Hn.out] at hE
      exact ⟨rfl, hE, hT⟩

set_option maxHeartbeats 1600000 in
set_option maxRecDepth 100000 in
theorem held_oms3 {base : Nat} {v : Value} {xs : List (List (List (Int × ByteArray)))} {bs : List Nat} (k0 : Nat) (w : World) (hn : Bd3 xs) (hk0 : k0 + szL (szL lenOm) xs ≤ 8388608) (ha : Om3E base w v (mkOm3 k0 xs) bs) :
    Calls Try.prog 53 #[v, .int .i64 (k0 : Int)] w (SeenPost (.int .i64 ((k0 + szL (szL lenOm) xs : Nat) : Int)) w) := by
  obtain ⟨A, ca, rfl⟩ := ha.slice
  rw [mkL_len] at ha ⊢
  obtain ⟨hn1, hn2⟩ := hn
  obtain ⟨n, hn'⟩ : ∃ n, n = xs.length := ⟨_, rfl⟩
  obtain ⟨t, ht⟩ : ∃ t, t = k0 + szL (szL lenOm) xs := ⟨_, rfl⟩
  have Hn := Lib.hid hn'
  have Ht := Lib.hid ht
  have Hn2 := Lib.hid hn2
  rw [← hn'] at ha hn1 ⊢
  rw [← ht] at hk0 ⊢
  have hq0 : k0 ≤ t := by rw [ht]; omega
  have hle : Hid (∀ j, k0 + szL (szL lenOm) (xs.take j) ≤ t) := by intro j; have := szL_take_le (sz := (szL lenOm)) xs j; rw [ht]; omega
  clear hn' hn2 ht
  go_enter Try.func53, Try.ntmps53
  go_wp2
  go_loopw [1, 5] (fun kk i wr => ∃ j q : Nat, j ≤ n ∧ i = .int .i64 j ∧ kk = .int .i64 (q : Int) ∧ Hid (q = k0 + szL (szL lenOm) (xs.take j)) ∧ Below w.heap.size w wr) (fun _ i _ => n - (intOf i).toNat)
  case atStart => exact ⟨0, k0, Nat.zero_le _, rfl, rfl, by show _ = _; simp [szL], Below.refl _ _⟩
  case round =>
    obtain ⟨j, q, hj, rfl, rfl, hq, hB⟩ := hrel
    have hqt : q ≤ t := by rw [hq.out]; exact hle.out j
    by_cases hlt : j < n
    · have hjx : j < xs.length := by rw [← Hn.out]; exact hlt
      obtain ⟨x, hx⟩ : ∃ x, xs[j]? = some x := ⟨_, List.getElem?_eq_getElem hjx⟩
      have hmk := mkL_at (mk := mkOm2) (sz := (szL lenOm)) (k := k0) hx
      rw [← hq.out] at hmk
      obtain ⟨g, c, u, cs, hv, hc, hu, hg, _⟩ := ha.at_ (om2_ok _) hmk
      simp only [Value.slice.injEq] at hv
      obtain ⟨rfl, h9, rfl⟩ := hv
      clear h9
      have hc1 := (hB.cell (p := ⟨g, j, none⟩) hg).trans hc
      have hs := hB.size
      have hq2 : Hid (q + (szL lenOm) x = k0 + szL (szL lenOm) (xs.take (j + 1))) := by show _ = _; rw [szL_take_succ hx, hq.out]; omega
      have hq3 : q + (szL lenOm) x ≤ t := by rw [hq2.out]; exact hle.out (j + 1)
      have hm := held_oms2 q wr (Hn2.out x (List.mem_of_getElem? hx)) (by first | omega | (show q + _ ≤ _; omega)) ((om2_ok _).later hu hB)
      have Hm := Lib.hid hm
      clear hmk hm hx hjx hu hc
      go_wp2_with (go_at_call 54; refine Hm.out.mono ?_; rintro e w2 ⟨rfl, hb2⟩)
      go_roundw
      case rel => exact ⟨j + 1, q + (szL lenOm) x, by omega, by go_num, by first | rfl | go_num, hq2, hB.trans (hb2.mono hs)⟩
      case measure => simp [intOf]; omega
    · have e : j = n := by omega
      subst e
      have hqe : q = t := by rw [hq.out, Ht.out, Hn.out, List.take_length]
      subst hqe
      clear hlt hq hqt hq0
      go_wp2
      go_ret
      exact ⟨rfl, hB⟩

set_option maxHeartbeats 1600000 in
set_option maxRecDepth 100000 in
theorem eq_ops2 {base base' : Nat} {v v' : Value} {xs : List (List (Int × Int × ByteArray))} {bs bs' : List Nat} (w : World) (hn : Bd2 xs) (ha : Op2E base w v xs bs) (hb : Op2E base' w v' xs bs') :
    Calls Try.prog 46 #[v, v'] w (SeenPost (.bool true) w) := by
  obtain ⟨A, ca, rfl⟩ := ha.slice
  obtain ⟨B, cb, rfl⟩ := hb.slice
  obtain ⟨hn1, hn2⟩ := hn
  obtain ⟨n, hn'⟩ : ∃ n, n = xs.length := ⟨_, rfl⟩
  have Hn := Lib.hid hn'
  have Hn2 := Lib.hid hn2
  rw [← hn'] at ha hb hn1 ⊢
  clear hn' hn2
  go_enter Try.func46, Try.ntmps46
  go_wp2
  go_loopw [5] (fun i wr => ∃ k : Nat, k ≤ n ∧ i = .int .i64 k ∧ Below w.heap.size w wr) (fun i _ => n - (intOf i).toNat)
  case atStart => exact ⟨0, Nat.zero_le _, rfl, Below.refl _ _⟩
  case round =>
    obtain ⟨k, hk, rfl, hB⟩ := hrel
    by_cases hlt : k < n
    · have hkx : k < xs.length := by rw [← Hn.out]; exact hlt
      obtain ⟨x, hx⟩ : ∃ x, xs[k]? = some x := ⟨_, List.getElem?_eq_getElem hkx⟩
      obtain ⟨g, c, u, cs, hv, hc, hE, hg, _⟩ := ha.at_ (op_ok _) hx
      obtain ⟨g', c', u', cs', hv', hc', hE', hg', _⟩ := hb.at_ (op_ok _) hx
      simp only [Value.slice.injEq] at hv hv'
      obtain ⟨rfl, h9, rfl⟩ := hv
      clear h9
      obtain ⟨rfl, h9, rfl⟩ := hv'
      clear h9
      have hc1 := (hB.cell (p := ⟨g, k, none⟩) hg).trans hc
      have hc2 := (hB.cell (p := ⟨g', k, none⟩) hg').trans hc'
      have hs := hB.size
      have hq := fun (W : World) (hw : Below w.heap.size w W) => eq_ops W (Hn2.out x (List.mem_of_getElem? hx)) ((op_ok _).later hE hw) ((op_ok _).later hE' hw)
      have Hq := Lib.hid hq
      have hmx : Try.prog.follows .mixedOrders = true := by kernel_rfl
      clear hkx hx hc hc' hq hE hE'
      go_wp2
      go_region_with (go_at_call 94; refine (Hq.out _ (by first | exact hB.drew | exact hB)).mono ?_; rintro e w2 ⟨rfl, hb2⟩)
      all_goals
        go_wp2
        go_roundw
        case rel => exact ⟨k + 1, by omega, by go_num, by first | exact hB.drew.trans (hb2.mono hs) | exact hB.trans (hb2.mono hs)⟩
        case measure => simp [intOf]; omega
    · go_wp2
      go_ret
      exact ⟨rfl, hB⟩

set_option maxHeartbeats 1600000 in
set_option maxRecDepth 100000 in
theorem mark_ops2 {base : Nat} {v : Value} {xs : List (List (Int × Int × ByteArray))} {bs : List Nat} (k0 : Nat) (w : World) (hn : Bd2 xs) (hk0 : k0 + szL lenOp xs ≤ 8388608) (ha : Op2E base w v xs bs) :
    Calls Try.prog 49 #[v, .int .i64 (k0 : Int)] w (MarkPost (Op2E base) v (mkOp2 k0 xs) bs (k0 + szL lenOp xs) w) := by
  obtain ⟨A, ca, rfl⟩ := ha.slice
  obtain ⟨hn1, hn2⟩ := hn
  obtain ⟨n, hn'⟩ : ∃ n, n = xs.length := ⟨_, rfl⟩
  obtain ⟨t, ht⟩ : ∃ t, t = k0 + szL lenOp xs := ⟨_, rfl⟩
  have Hn := Lib.hid hn'
  have Ht := Lib.hid ht
  have Hn2 := Lib.hid hn2
  rw [← hn'] at ha hn1 ⊢
  rw [← ht] at hk0 ⊢
  have hq0 : k0 ≤ t := by rw [ht]; omega
  have hle : Hid (∀ j, k0 + szL lenOp (xs.take j) ≤ t) := by intro j; have := szL_take_le (sz := lenOp) xs j; rw [ht]; omega
  clear hn' hn2 ht
  go_enter Try.func49, Try.ntmps49
  go_wp2
  go_loopw [1, 5] (fun kk i wr => ∃ j q : Nat, j ≤ n ∧ i = .int .i64 j ∧ kk = .int .i64 (q : Int) ∧ Hid (q = k0 + szL lenOp (xs.take j)) ∧ Op2E base wr (.slice A n ca) (half mkOp lenOp k0 xs j) bs ∧ Turned bs w wr) (fun _ i _ => n - (intOf i).toNat)
  case atStart => exact ⟨0, k0, Nat.zero_le _, rfl, rfl, by show _ = _; simp [szL], by rw [half_zero]; exact ha, Turned.refl _ _⟩
  case round =>
    obtain ⟨j, q, hj, rfl, rfl, hq, hE, hT⟩ := hrel
    have hqt : q ≤ t := by rw [hq.out]; exact hle.out j
    by_cases hlt : j < n
    · have hjx : j < xs.length := by rw [← Hn.out]; exact hlt
      obtain ⟨x, hx⟩ : ∃ x, xs[j]? = some x := ⟨_, List.getElem?_eq_getElem hjx⟩
      obtain ⟨g, c, u, cs, hv, hc, hu, hg, hturn⟩ := hE.at_ (op_ok _) (half_at hx)
      simp only [Value.slice.injEq] at hv
      obtain ⟨rfl, h9, rfl⟩ := hv
      clear h9
      have hq2 : Hid (q + lenOp x = k0 + szL lenOp (xs.take (j + 1))) := by show _ = _; rw [szL_take_succ hx, hq.out]; omega
      have hq3 : q + lenOp x ≤ t := by rw [hq2.out]; exact hle.out (j + 1)
      have hm := mark_ops q wr (Hn2.out x (List.mem_of_getElem? hx)) (by first | omega | (show q + _ ≤ _; omega)) hu
      have hset := half_set (mk := mkOp) (sz := lenOp) (k := k0) hx
      rw [← hq.out] at hset
      have Hset := Lib.hid hset
      have Hm := Lib.hid hm
      have Hturn := Lib.hid hturn
      clear hset hm hturn hx hjx hu
      go_wp2_with (go_at_call 96; refine Hm.out.mono ?_; rintro e w2 ⟨rfl, hu2, ht2⟩)
      obtain ⟨hE2, hT2⟩ := Hturn.out w2 _ ht2 hu2
      rw [Hset.out] at hE2
      go_roundw
      case rel => exact ⟨j + 1, q + lenOp x, by omega, by go_num, by first | rfl | go_num, hq2, hE2, hT.trans hT2⟩
      case measure => simp [intOf]; omega
    · have e : j = n := by omega
      subst e
      have hqe : q = t := by rw [hq.out, Ht.out, Hn.out, List.take_length]
      subst hqe
      clear hlt hq hqt hq0
      go_wp2
      go_ret
      rw [Hn.out, half_all, ← Hn.out] at hE
      exact ⟨rfl, hE, hT⟩

set_option maxHeartbeats 1600000 in
set_option maxRecDepth 100000 in
theorem held_ops2 {base : Nat} {v : Value} {xs : List (List (Int × Int × ByteArray))} {bs : List Nat} (k0 : Nat) (w : World) (hn : Bd2 xs) (hk0 : k0 + szL lenOp xs ≤ 8388608) (ha : Op2E base w v (mkOp2 k0 xs) bs) :
    Calls Try.prog 52 #[v, .int .i64 (k0 : Int)] w (SeenPost (.int .i64 ((k0 + szL lenOp xs : Nat) : Int)) w) := by
  obtain ⟨A, ca, rfl⟩ := ha.slice
  rw [mkL_len] at ha ⊢
  obtain ⟨hn1, hn2⟩ := hn
  obtain ⟨n, hn'⟩ : ∃ n, n = xs.length := ⟨_, rfl⟩
  obtain ⟨t, ht⟩ : ∃ t, t = k0 + szL lenOp xs := ⟨_, rfl⟩
  have Hn := Lib.hid hn'
  have Ht := Lib.hid ht
  have Hn2 := Lib.hid hn2
  rw [← hn'] at ha hn1 ⊢
  rw [← ht] at hk0 ⊢
  have hq0 : k0 ≤ t := by rw [ht]; omega
  have hle : Hid (∀ j, k0 + szL lenOp (xs.take j) ≤ t) := by intro j; have := szL_take_le (sz := lenOp) xs j; rw [ht]; omega
  clear hn' hn2 ht
  go_enter Try.func52, Try.ntmps52
  go_wp2
  go_loopw [1, 5] (fun kk i wr => ∃ j q : Nat, j ≤ n ∧ i = .int .i64 j ∧ kk = .int .i64 (q : Int) ∧ Hid (q = k0 + szL lenOp (xs.take j)) ∧ Below w.heap.size w wr) (fun _ i _ => n - (intOf i).toNat)
  case atStart => exact ⟨0, k0, Nat.zero_le _, rfl, rfl, by show _ = _; simp [szL], Below.refl _ _⟩
  case round =>
    obtain ⟨j, q, hj, rfl, rfl, hq, hB⟩ := hrel
    have hqt : q ≤ t := by rw [hq.out]; exact hle.out j
    by_cases hlt : j < n
    · have hjx : j < xs.length := by rw [← Hn.out]; exact hlt
      obtain ⟨x, hx⟩ : ∃ x, xs[j]? = some x := ⟨_, List.getElem?_eq_getElem hjx⟩
      have hmk := mkL_at (mk := mkOp) (sz := lenOp) (k := k0) hx
      rw [← hq.out] at hmk
      obtain ⟨g, c, u, cs, hv, hc, hu, hg, _⟩ := ha.at_ (op_ok _) hmk
      simp only [Value.slice.injEq] at hv
      obtain ⟨rfl, h9, rfl⟩ := hv
      clear h9
      have hc1 := (hB.cell (p := ⟨g, j, none⟩) hg).trans hc
      have hs := hB.size
      have hq2 : Hid (q + lenOp x = k0 + szL lenOp (xs.take (j + 1))) := by show _ = _; rw [szL_take_succ hx, hq.out]; omega
      have hq3 : q + lenOp x ≤ t := by rw [hq2.out]; exact hle.out (j + 1)
      have hm := held_ops q wr (Hn2.out x (List.mem_of_getElem? hx)) (by first | omega | (show q + _ ≤ _; omega)) ((op_ok _).later hu hB)
      have Hm := Lib.hid hm
      clear hmk hm hx hjx hu hc
      go_wp2_with (go_at_call 98; refine Hm.out.mono ?_; rintro e w2 ⟨rfl, hb2⟩)
      go_roundw
      case rel => exact ⟨j + 1, q + lenOp x, by omega, by go_num, by first | rfl | go_num, hq2, hB.trans (hb2.mono hs)⟩
      case measure => simp [intOf]; omega
    · have e : j = n := by omega
      subst e
      have hqe : q = t := by rw [hq.out, Ht.out, Hn.out, List.take_length]
      subst hqe
      clear hlt hq hqt hq0
      go_wp2
      go_ret
      exact ⟨rfl, hB⟩

set_option maxHeartbeats 1600000 in
set_option maxRecDepth 100000 in
theorem to_oms2 {v : Value} {xs : List (List (Int × ByteArray))} (w : World) (hn : Bd2 xs) (ha : Om2R w v xs) : Calls Try.prog 73 #[v] w (NewPost Om2E xs w) := by
  obtain ⟨A, ca, rfl, _, hA⟩ := ha
  obtain ⟨hn, hn2⟩ := hn
  obtain ⟨n, hn'⟩ : ∃ n, n = xs.length := ⟨_, rfl⟩
  have Hn := Lib.hid hn'
  have HA := Lib.hid hA
  have Hn2 := Lib.hid hn2
  rw [← hn'] at hn ⊢
  have hmk := run_make_row' (P := Try.prog) 34 79 (.slice none 0 0) 24 Try.underlying34 toInfo_oms rfl .i64 .i64 n (by omega) (by omega)
  have hst : PartE w.heap.size w.heap.size n 79 (OmE w.heap.size) xs 0 [] [] (w.alloc (.cells (madeCells #[.slice none 0 0] n) 79)) := PartE.start (by unfold maxLen; omega)
  have Hst := Lib.hid hst
  clear hn' hA hst hn2
  go_enter Try.func73, Try.ntmps73
  go_wp2
  go_loopw [4] (fun i wr => ∃ (j : Nat) (us : List Value) (bss : List (List Nat)), j ≤ n ∧ i = .int .i64 j ∧ PartE w.heap.size w.heap.size n 79 (OmE w.heap.size) xs j us bss wr ∧ Below w.heap.size w wr) (fun i _ => n - (intOf i).toNat)
  case atStart => exact ⟨0, [], [], Nat.zero_le _, rfl, Hst.out, (Below.refl _ _).alloc (Nat.le_refl _) _⟩
  case round =>
    obtain ⟨j, us, bss, hj, rfl, hP, hB⟩ := hrel
    by_cases hlt : j < n
    · have hjx : j < xs.length := by rw [← Hn.out]; exact hlt
      obtain ⟨x, hx⟩ : ∃ x, xs[j]? = some x := ⟨_, List.getElem?_eq_getElem hjx⟩
      obtain ⟨A', u, rfl, hl, hc0, hu⟩ := HA.out j x hx
      have hc := (hB.cell (p := A'.add j) (by rw [add_block]; exact hl)).trans hc0
      have hs := hB.size
      have hsub := to_oms wr (Hn2.out x (List.mem_of_getElem? hx)) (oms_r.later hu hB)
      have Hsub := Lib.hid hsub
      have hgl := (hP.row.lt w.heap.size rfl).2
      have Hx := Lib.hid hx
      clear hjx hx hc0 hsub hu
      go_wp2_with (go_at_call 119; refine Hsub.out.mono ?_; rintro e w2 ⟨v2, cs, rfl, hv2, hb2⟩; have hrow2 := row_below hP.row hb2; have hf := hrow2.frozenAt j; obtain ⟨q, hq⟩ : ∃ q, w2.cell? ⟨w.heap.size, j, none⟩ = some q := (by
        have h1 := hrow2.cellAt j (by omega)
        have h2 := hrow2.1
        rw [h1, List.getElem?_eq_getElem (by rw [h2]; omega)]
        exact ⟨_, rfl⟩); obtain ⟨A2, c2, rfl⟩ := RowE.slice hv2)
      have hP2 := hP.next (E' := OmE w.heap.size) (om_ok _) Hn.out.symm hlt (Nat.le_refl _) Hx.out hb2 (oms_base hs _ _ _ _ hv2) (fun b hb => ((om_ok _).lt hv2 b hb).1) ((om_ok _).nodup hv2)
      have hB2 := (hB.trans (hb2.mono hs)).setCell (p := ⟨w.heap.size, j, none⟩) (Nat.le_refl _) (.slice A2 x.length c2)
      go_roundw
      case rel => exact ⟨j + 1, _, _, by omega, by go_num, hP2, hB2⟩
      case measure => simp [intOf]; omega
    · have e : j = n := by omega
      subst e
      have hD := hP.done Hn.out.symm
      go_wp2
      go_ret
      exact ⟨_, _, rfl, hD, hB⟩

set_option maxHeartbeats 1600000 in
set_option maxRecDepth 100000 in
theorem to_oms3 {v : Value} {xs : List (List (List (Int × ByteArray)))} (w : World) (hn : Bd3 xs) (ha : Om3R w v xs) : Calls Try.prog 72 #[v] w (NewPost Om3E xs w) := by
  obtain ⟨A, ca, rfl, _, hA⟩ := ha
  obtain ⟨hn, hn2⟩ := hn
  obtain ⟨n, hn'⟩ : ∃ n, n = xs.length := ⟨_, rfl⟩
  have Hn := Lib.hid hn'
  have HA := Lib.hid hA
  have Hn2 := Lib.hid hn2
  rw [← hn'] at hn ⊢
  have hmk := run_make_row' (P := Try.prog) 33 34 (.slice none 0 0) 24 Try.underlying33 toInfo_oms2 rfl .i64 .i64 n (by omega) (by omega)
  have hst : PartE w.heap.size w.heap.size n 34 (Om2E w.heap.size) xs 0 [] [] (w.alloc (.cells (madeCells #[.slice none 0 0] n) 34)) := PartE.start (by unfold maxLen; omega)
  have Hst := Lib.hid hst
  clear hn' hA hst hn2
  go_enter Try.func72, Try.ntmps72
  go_wp2
  go_loopw [4] (fun i wr => ∃ (j : Nat) (us : List Value) (bss : List (List Nat)), j ≤ n ∧ i = .int .i64 j ∧ PartE w.heap.size w.heap.size n 34 (Om2E w.heap.size) xs j us bss wr ∧ Below w.heap.size w wr) (fun i _ => n - (intOf i).toNat)
  case atStart => exact ⟨0, [], [], Nat.zero_le _, rfl, Hst.out, (Below.refl _ _).alloc (Nat.le_refl _) _⟩
  case round =>
    obtain ⟨j, us, bss, hj, rfl, hP, hB⟩ := hrel
    by_cases hlt : j < n
    · have hjx : j < xs.length := by rw [← Hn.out]; exact hlt
      obtain ⟨x, hx⟩ : ∃ x, xs[j]? = some x := ⟨_, List.getElem?_eq_getElem hjx⟩
      obtain ⟨A', u, rfl, hl, hc0, hu⟩ := HA.out j x hx
      have hc := (hB.cell (p := A'.add j) (by rw [add_block]; exact hl)).trans hc0
      have hs := hB.size
      have hsub := to_oms2 wr (Hn2.out x (List.mem_of_getElem? hx)) (oms2_r.later hu hB)
      have Hsub := Lib.hid hsub
      have hgl := (hP.row.lt w.heap.size rfl).2
      have Hx := Lib.hid hx
      clear hjx hx hc0 hsub hu
      go_wp2_with (go_at_call 73; refine Hsub.out.mono ?_; rintro e w2 ⟨v2, cs, rfl, hv2, hb2⟩; have hrow2 := row_below hP.row hb2; have hf := hrow2.frozenAt j; obtain ⟨q, hq⟩ : ∃ q, w2.cell? ⟨w.heap.size, j, none⟩ = some q := (by
        have h1 := hrow2.cellAt j (by omega)
        have h2 := hrow2.1
        rw [h1, List.getElem?_eq_getElem (by rw [h2]; omega)]
        exact ⟨_, rfl⟩); obtain ⟨A2, c2, rfl⟩ := ManyE.slice hv2)
      have hP2 := hP.next (E' := Om2E w.heap.size) (om2_ok _) Hn.out.symm hlt (Nat.le_refl _) Hx.out hb2 (oms2_base hs _ _ _ _ hv2) (fun b hb => ((om2_ok _).lt hv2 b hb).1) ((om2_ok _).nodup hv2)
      have hB2 := (hB.trans (hb2.mono hs)).setCell (p := ⟨w.heap.size, j, none⟩) (Nat.le_refl _) (.slice A2 x.length c2)
      go_roundw
      case rel => exact ⟨j + 1, _, _, by omega, by go_num, hP2, hB2⟩
      case measure => simp [intOf]; omega
    · have e : j = n := by omega
      subst e
      have hD := hP.done Hn.out.symm
      go_wp2
      go_ret
      exact ⟨_, _, rfl, hD, hB⟩

set_option maxHeartbeats 1600000 in
set_option maxRecDepth 100000 in
theorem to_ops2 {v : Value} {xs : List (List (Int × Int × ByteArray))} (w : World) (hn : Bd2 xs) (ha : Op2R w v xs) : Calls Try.prog 71 #[v] w (NewPost Op2E xs w) := by
  obtain ⟨A, ca, rfl, _, hA⟩ := ha
  obtain ⟨hn, hn2⟩ := hn
  obtain ⟨n, hn'⟩ : ∃ n, n = xs.length := ⟨_, rfl⟩
  have Hn := Lib.hid hn'
  have HA := Lib.hid hA
  have Hn2 := Lib.hid hn2
  rw [← hn'] at hn ⊢
  have hmk := run_make_row' (P := Try.prog) 32 76 (.slice none 0 0) 24 Try.underlying32 toInfo_ops rfl .i64 .i64 n (by omega) (by omega)
  have hst : PartE w.heap.size w.heap.size n 76 (OpE w.heap.size) xs 0 [] [] (w.alloc (.cells (madeCells #[.slice none 0 0] n) 76)) := PartE.start (by unfold maxLen; omega)
  have Hst := Lib.hid hst
  clear hn' hA hst hn2
  go_enter Try.func71, Try.ntmps71
  go_wp2
  go_loopw [4] (fun i wr => ∃ (j : Nat) (us : List Value) (bss : List (List Nat)), j ≤ n ∧ i = .int .i64 j ∧ PartE w.heap.size w.heap.size n 76 (OpE w.heap.size) xs j us bss wr ∧ Below w.heap.size w wr) (fun i _ => n - (intOf i).toNat)
  case atStart => exact ⟨0, [], [], Nat.zero_le _, rfl, Hst.out, (Below.refl _ _).alloc (Nat.le_refl _) _⟩
  case round =>
    obtain ⟨j, us, bss, hj, rfl, hP, hB⟩ := hrel
    by_cases hlt : j < n
    · have hjx : j < xs.length := by rw [← Hn.out]; exact hlt
      obtain ⟨x, hx⟩ : ∃ x, xs[j]? = some x := ⟨_, List.getElem?_eq_getElem hjx⟩
      obtain ⟨A', u, rfl, hl, hc0, hu⟩ := HA.out j x hx
      have hc := (hB.cell (p := A'.add j) (by rw [add_block]; exact hl)).trans hc0
      have hs := hB.size
      have hsub := to_ops wr (Hn2.out x (List.mem_of_getElem? hx)) (ops_r.later hu hB)
      have Hsub := Lib.hid hsub
      have hgl := (hP.row.lt w.heap.size rfl).2
      have Hx := Lib.hid hx
      clear hjx hx hc0 hsub hu
      go_wp2_with (go_at_call 118; refine Hsub.out.mono ?_; rintro e w2 ⟨v2, cs, rfl, hv2, hb2⟩; have hrow2 := row_below hP.row hb2; have hf := hrow2.frozenAt j; obtain ⟨q, hq⟩ : ∃ q, w2.cell? ⟨w.heap.size, j, none⟩ = some q := (by
        have h1 := hrow2.cellAt j (by omega)
        have h2 := hrow2.1
        rw [h1, List.getElem?_eq_getElem (by rw [h2]; omega)]
        exact ⟨_, rfl⟩); obtain ⟨A2, c2, rfl⟩ := RowE.slice hv2)
      have hP2 := hP.next (E' := OpE w.heap.size) (op_ok _) Hn.out.symm hlt (Nat.le_refl _) Hx.out hb2 (ops_base hs _ _ _ _ hv2) (fun b hb => ((op_ok _).lt hv2 b hb).1) ((op_ok _).nodup hv2)
      have hB2 := (hB.trans (hb2.mono hs)).setCell (p := ⟨w.heap.size, j, none⟩) (Nat.le_refl _) (.slice A2 x.length c2)
      go_roundw
      case rel => exact ⟨j + 1, _, _, by omega, by go_num, hP2, hB2⟩
      case measure => simp [intOf]; omega
    · have e : j = n := by omega
      subst e
      have hD := hP.done Hn.out.symm
      go_wp2
      go_ret
      exact ⟨_, _, rfl, hD, hB⟩

set_option maxHeartbeats 1600000 in
set_option maxRecDepth 100000 in
theorem sz_oms2 {v : Value} {xs : List (List (Int × ByteArray))} (left : Nat) (w : World) (hl : left ≤ 1048576) (ha : Om2R w v xs) : Calls Try.prog 69 #[v, .int .i64 (left : Int)] w fun e w' => e = .returned (.int .i64 (dec left (cntOm2 xs))) ∧ Below w.heap.size w w' := by
  obtain ⟨A, ca, rfl, hm, hA⟩ := ha
  unfold maxLen at hm
  obtain ⟨n, hn'⟩ : ∃ n, n = xs.length := ⟨_, rfl⟩
  obtain ⟨t, ht⟩ : ∃ t, t = cntOm2 xs := ⟨_, rfl⟩
  have htn : t = n + szL cntOm xs := by rw [ht, hn']; rfl
  have Hn := Lib.hid hn'
  have HA := Lib.hid hA
  have Ht := Lib.hid htn
  rw [← hn'] at hm ⊢
  rw [← ht]
  clear hn' hA ht htn
  by_cases h0 : n ≤ left
  · obtain ⟨q0, hq0⟩ : ∃ q0, q0 = left - n := ⟨_, rfl⟩
    have hq1 : q0 + n = left := by omega
    have hq2 : ((left : Int) - (n : Int)) = (q0 : Int) := by omega
    have hq3 : q0 ≤ 1048576 := by omega
    clear hq0
    have Hq1 := Lib.hid hq1
    have Hq2 := Lib.hid hq2
    clear hq1 hq2
    go_enter Try.func69, Try.ntmps69
    go_wp2
    go_loopw [1, 5] (fun l i wr => ∃ j q : Nat, j ≤ n ∧ i = .int .i64 j ∧ l = .int .i64 (q : Int) ∧ q ≤ 1048576 ∧ Hid (q + n + szL cntOm (xs.take j) = left) ∧ Below w.heap.size w wr) (fun _ i _ => n - (intOf i).toNat)
    case atStart => exact ⟨0, q0, Nat.zero_le _, rfl, by rw [Hq2.out], hq3, by show _ = _; rw [← Hq1.out]; simp [szL], Below.refl _ _⟩
    case round =>
      obtain ⟨j, q, hj, rfl, rfl, hq, hsum, hB⟩ := hrel
      have hsz := hB.size
      by_cases hlt : j < n
      · have hjx : j < xs.length := by rw [← Hn.out]; exact hlt
        obtain ⟨x, hx⟩ : ∃ x, xs[j]? = some x := ⟨_, List.getElem?_eq_getElem hjx⟩
        obtain ⟨A', u, rfl, hbl, hc0, hu⟩ := HA.out j x hx
        have hc := (hB.cell (p := A'.add j) (by rw [add_block]; exact hbl)).trans hc0
        have hss := szL_take_succ (sz := cntOm) hx
        have hle := szL_take_le (sz := cntOm) xs (j + 1)
        obtain ⟨y, hy⟩ : ∃ y, y = cntOm x := ⟨_, rfl⟩
        have hsub := sz_oms q wr hq (oms_r.later hu hB)
        rw [show cntOm x = y from hy.symm] at hsub
        rw [← hy] at hss
        have Hss := Lib.hid hss
        have Hle := Lib.hid hle
        clear hss hle hjx hx hy hu hc0
        by_cases hyq : y ≤ q
        · rw [dec_yes hyq] at hsub
          have Hsub := Lib.hid hsub
          obtain ⟨q', hq'⟩ : ∃ q', q' = q - y := ⟨_, rfl⟩
          have hq2 : q' + y = q := by omega
          rw [← hq'] at Hsub
          clear hsub hq'
          go_wp2_with (go_at_call 114; refine Hsub.out.mono ?_; rintro e w' ⟨rfl, hb2⟩)
          go_round
          case rel => exact ⟨j + 1, q', by omega, by go_num, rfl, by omega, by show _ = _; have := hsum.out; have := Hss.out; omega, hB.trans (hb2.mono hsz)⟩
          case measure => simp [intOf]; omega
        · rw [dec_no hyq] at hsub
          have Hsub := Lib.hid hsub
          have hno : ¬ t ≤ left := by
            have := hsum.out
            have := Hss.out
            have := Hle.out
            have := Ht.out
            omega
          have hd := Lib.hid (dec_no hno)
          clear hsub hyq hno
          go_wp2_with (go_at_call 114; refine Hsub.out.mono ?_; rintro e w' ⟨rfl, hb2⟩)
          go_ret
          exact ⟨by rw [hd.out]; rfl, hB.trans (hb2.mono hsz)⟩
      · have e : j = n := by omega
        subst e
        have hall : q + t = left := by
          have h1 := hsum.out
          rw [Hn.out, List.take_length] at h1
          have := Ht.out
          have := Hn.out
          omega
        have hv : ((left - t : Nat) : Int) = (q : Int) := by omega
        have hd := Lib.hid ((dec_yes (left := left) (n := t) (by omega)).trans hv)
        clear hall hv hsum
        go_wp2
        go_ret
        exact ⟨by rw [hd.out]; rfl, hB⟩
  · have h' : left < n := by omega
    have hno : ¬ t ≤ left := by have := Ht.out; omega
    rw [dec_no hno]
    clear h0 hno
    go_enter Try.func69, Try.ntmps69
    go_wp2
    go_ret
    exact ⟨rfl, Below.refl _ _⟩

set_option maxHeartbeats 1600000 in
set_option maxRecDepth 100000 in
theorem sz_oms3 {v : Value} {xs : List (List (List (Int × ByteArray)))} (left : Nat) (w : World) (hl : left ≤ 1048576) (ha : Om3R w v xs) : Calls Try.prog 68 #[v, .int .i64 (left : Int)] w fun e w' => e = .returned (.int .i64 (dec left (cntOm3 xs))) ∧ Below w.heap.size w w' := by
  obtain ⟨A, ca, rfl, hm, hA⟩ := ha
  unfold maxLen at hm
  obtain ⟨n, hn'⟩ : ∃ n, n = xs.length := ⟨_, rfl⟩
  obtain ⟨t, ht⟩ : ∃ t, t = cntOm3 xs := ⟨_, rfl⟩
  have htn : t = n + szL cntOm2 xs := by rw [ht, hn']; rfl
  have Hn := Lib.hid hn'
  have HA := Lib.hid hA
  have Ht := Lib.hid htn
  rw [← hn'] at hm ⊢
  rw [← ht]
  clear hn' hA ht htn
  by_cases h0 : n ≤ left
  · obtain ⟨q0, hq0⟩ : ∃ q0, q0 = left - n := ⟨_, rfl⟩
    have hq1 : q0 + n = left := by omega
    have hq2 : ((left : Int) - (n : Int)) = (q0 : Int) := by omega
    have hq3 : q0 ≤ 1048576 := by omega
    clear hq0
    have Hq1 := Lib.hid hq1
    have Hq2 := Lib.hid hq2
    clear hq1 hq2
    go_enter Try.func68, Try.ntmps68
    go_wp2
    go_loopw [1, 5] (fun l i wr => ∃ j q : Nat, j ≤ n ∧ i = .int .i64 j ∧ l = .int .i64 (q : Int) ∧ q ≤ 1048576 ∧ Hid (q + n + szL cntOm2 (xs.take j) = left) ∧ Below w.heap.size w wr) (fun _ i _ => n - (intOf i).toNat)
    case atStart => exact ⟨0, q0, Nat.zero_le _, rfl, by rw [Hq2.out], hq3, by show _ = _; rw [← Hq1.out]; simp [szL], Below.refl _ _⟩
    case round =>
      obtain ⟨j, q, hj, rfl, rfl, hq, hsum, hB⟩ := hrel
      have hsz := hB.size
      by_cases hlt : j < n
      · have hjx : j < xs.length := by rw [← Hn.out]; exact hlt
        obtain ⟨x, hx⟩ : ∃ x, xs[j]? = some x := ⟨_, List.getElem?_eq_getElem hjx⟩
        obtain ⟨A', u, rfl, hbl, hc0, hu⟩ := HA.out j x hx
        have hc := (hB.cell (p := A'.add j) (by rw [add_block]; exact hbl)).trans hc0
        have hss := szL_take_succ (sz := cntOm2) hx
        have hle := szL_take_le (sz := cntOm2) xs (j + 1)
        obtain ⟨y, hy⟩ : ∃ y, y = cntOm2 x := ⟨_, rfl⟩
        have hsub := sz_oms2 q wr hq (oms2_r.later hu hB)
        rw [show cntOm2 x = y from hy.symm] at hsub
        rw [← hy] at hss
        have Hss := Lib.hid hss
        have Hle := Lib.hid hle
        clear hss hle hjx hx hy hu hc0
        by_cases hyq : y ≤ q
        · rw [dec_yes hyq] at hsub
          have Hsub := Lib.hid hsub
          obtain ⟨q', hq'⟩ : ∃ q', q' = q - y := ⟨_, rfl⟩
          have hq2 : q' + y = q := by omega
          rw [← hq'] at Hsub
          clear hsub hq'
          go_wp2_with (go_at_call 69; refine Hsub.out.mono ?_; rintro e w' ⟨rfl, hb2⟩)
          go_round
          case rel => exact ⟨j + 1, q', by omega, by go_num, rfl, by omega, by show _ = _; have := hsum.out; have := Hss.out; omega, hB.trans (hb2.mono hsz)⟩
          case measure => simp [intOf]; omega
        · rw [dec_no hyq] at hsub
          have Hsub := Lib.hid hsub
          have hno : ¬ t ≤ left := by
            have := hsum.out
            have := Hss.out
            have := Hle.out
            have := Ht.out
            omega
          have hd := Lib.hid (dec_no hno)
          clear hsub hyq hno
          go_wp2_with (go_at_call 69; refine Hsub.out.mono ?_; rintro e w' ⟨rfl, hb2⟩)
          go_ret
          exact ⟨by rw [hd.out]; rfl, hB.trans (hb2.mono hsz)⟩
      · have e : j = n := by omega
        subst e
        have hall : q + t = left := by
          have h1 := hsum.out
          rw [Hn.out, List.take_length] at h1
          have := Ht.out
          have := Hn.out
          omega
        have hv : ((left - t : Nat) : Int) = (q : Int) := by omega
        have hd := Lib.hid ((dec_yes (left := left) (n := t) (by omega)).trans hv)
        clear hall hv hsum
        go_wp2
        go_ret
        exact ⟨by rw [hd.out]; rfl, hB⟩
  · have h' : left < n := by omega
    have hno : ¬ t ≤ left := by have := Ht.out; omega
    rw [dec_no hno]
    clear h0 hno
    go_enter Try.func68, Try.ntmps68
    go_wp2
    go_ret
    exact ⟨rfl, Below.refl _ _⟩

set_option maxHeartbeats 1600000 in
set_option maxRecDepth 100000 in
theorem sz_ops2 {v : Value} {xs : List (List (Int × Int × ByteArray))} (left : Nat) (w : World) (hl : left ≤ 1048576) (ha : Op2R w v xs) : Calls Try.prog 67 #[v, .int .i64 (left : Int)] w fun e w' => e = .returned (.int .i64 (dec left (cntOp2 xs))) ∧ Below w.heap.size w w' := by
  obtain ⟨A, ca, rfl, hm, hA⟩ := ha
  unfold maxLen at hm
  obtain ⟨n, hn'⟩ : ∃ n, n = xs.length := ⟨_, rfl⟩
  obtain ⟨t, ht⟩ : ∃ t, t = cntOp2 xs := ⟨_, rfl⟩
  have htn : t = n + szL cntOp xs := by rw [ht, hn']; rfl
  have Hn := Lib.hid hn'
  have HA := Lib.hid hA
  have Ht := Lib.hid htn
  rw [← hn'] at hm ⊢
  rw [← ht]
  clear hn' hA ht htn
  by_cases h0 : n ≤ left
  · obtain ⟨q0, hq0⟩ : ∃ q0, q0 = left - n := ⟨_, rfl⟩
    have hq1 : q0 + n = left := by omega
    have hq2 : ((left : Int) - (n : Int)) = (q0 : Int) := by omega
    have hq3 : q0 ≤ 1048576 := by omega
    clear hq0
    have Hq1 := Lib.hid hq1
    have Hq2 := Lib.hid hq2
    clear hq1 hq2
    go_enter Try.func67, Try.ntmps67
    go_wp2
    go_loopw [1, 5] (fun l i wr => ∃ j q : Nat, j ≤ n ∧ i = .int .i64 j ∧ l = .int .i64 (q : Int) ∧ q ≤ 1048576 ∧ Hid (q + n + szL cntOp (xs.take j) = left) ∧ Below w.heap.size w wr) (fun _ i _ => n - (intOf i).toNat)
    case atStart => exact ⟨0, q0, Nat.zero_le _, rfl, by rw [Hq2.out], hq3, by show _ = _; rw [← Hq1.out]; simp [szL], Below.refl _ _⟩
    case round =>
      obtain ⟨j, q, hj, rfl, rfl, hq, hsum, hB⟩ := hrel
      have hsz := hB.size
      by_cases hlt : j < n
      · have hjx : j < xs.length := by rw [← Hn.out]; exact hlt
        obtain ⟨x, hx⟩ : ∃ x, xs[j]? = some x := ⟨_, List.getElem?_eq_getElem hjx⟩
        obtain ⟨A', u, rfl, hbl, hc0, hu⟩ := HA.out j x hx
        have hc := (hB.cell (p := A'.add j) (by rw [add_block]; exact hbl)).trans hc0
        have hss := szL_take_succ (sz := cntOp) hx
        have hle := szL_take_le (sz := cntOp) xs (j + 1)
        obtain ⟨y, hy⟩ : ∃ y, y = cntOp x := ⟨_, rfl⟩
        have hsub := sz_ops q wr hq (ops_r.later hu hB)
        rw [show cntOp x = y from hy.symm] at hsub
        rw [← hy] at hss
        have Hss := Lib.hid hss
        have Hle := Lib.hid hle
        clear hss hle hjx hx hy hu hc0
        by_cases hyq : y ≤ q
        · rw [dec_yes hyq] at hsub
          have Hsub := Lib.hid hsub
          obtain ⟨q', hq'⟩ : ∃ q', q' = q - y := ⟨_, rfl⟩
          have hq2 : q' + y = q := by omega
          rw [← hq'] at Hsub
          clear hsub hq'
          go_wp2_with (go_at_call 113; refine Hsub.out.mono ?_; rintro e w' ⟨rfl, hb2⟩)
          go_round
          case rel => exact ⟨j + 1, q', by omega, by go_num, rfl, by omega, by show _ = _; have := hsum.out; have := Hss.out; omega, hB.trans (hb2.mono hsz)⟩
          case measure => simp [intOf]; omega
        · rw [dec_no hyq] at hsub
          have Hsub := Lib.hid hsub
          have hno : ¬ t ≤ left := by
            have := hsum.out
            have := Hss.out
            have := Hle.out
            have := Ht.out
            omega
          have hd := Lib.hid (dec_no hno)
          clear hsub hyq hno
          go_wp2_with (go_at_call 113; refine Hsub.out.mono ?_; rintro e w' ⟨rfl, hb2⟩)
          go_ret
          exact ⟨by rw [hd.out]; rfl, hB.trans (hb2.mono hsz)⟩
      · have e : j = n := by omega
        subst e
        have hall : q + t = left := by
          have h1 := hsum.out
          rw [Hn.out, List.take_length] at h1
          have := Ht.out
          have := Hn.out
          omega
        have hv : ((left - t : Nat) : Int) = (q : Int) := by omega
        have hd := Lib.hid ((dec_yes (left := left) (n := t) (by omega)).trans hv)
        clear hall hv hsum
        go_wp2
        go_ret
        exact ⟨by rw [hd.out]; rfl, hB⟩
  · have h' : left < n := by omega
    have hno : ¬ t ≤ left := by have := Ht.out; omega
    rw [dec_no hno]
    clear h0 hno
    go_enter Try.func67, Try.ntmps67
    go_wp2
    go_ret
    exact ⟨rfl, Below.refl _ _⟩
end Go.Proofs.Ytmkamodmnplclaa
