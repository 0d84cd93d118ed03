/- Rows one level deeper; the bounds of rows. -/
import Derived.Test.YticmekdfdilcpaaConv
namespace Go.Proofs.Yticmekdfdilcpaa
open Go.RowKit Go.ChangeShapes Go.WideShapes Go.Deep
set_option linter.unusedVariables false

def Bd4 {α : Type} (xs : List (List (List (List α)))) : Prop := xs.length ≤ 1048576 ∧ ∀ x ∈ xs, Bd3 x
abbrev Ints4E (base : Nat) : EP (List (List (List (List Int)))) := ManyE base 26 (Ints3E base)
abbrev Push3E (base : Nat) : EP (List (List (List (Int × Int)))) := ManyE base 44 (Push2E base)
theorem ints4_ok (base : Nat) : EP.Ok base (Ints4E base) := ManyE.ok _ (ints3_ok base)
theorem push3_ok (base : Nat) : EP.Ok base (Push3E base) := ManyE.ok _ (push2_ok base)
abbrev mkI4 := mkL mkI3 (szL (szL lenI))
abbrev mkP3 := mkL mkP2 (szL lenP)
abbrev Ints4R : RP (List (List (List (List Int)))) := ManyR Ints3R
abbrev Push3R : RP (List (List (List (Int × Int)))) := ManyR Push2R
theorem ints4_r : RP.Ok Ints4R := ManyR.ok ints3_r
theorem pushes3_r : RP.Ok Push3R := ManyR.ok pushes2_r
theorem toInfo_ints3 : (Try.prog.info? 26).map (fun i => (i.zero, i.size, i.bytes)) = some (some (.slice none 0 0), 1, 24) := by kernel_rfl
theorem toInfo_pushes2 : (Try.prog.info? 44).map (fun i => (i.zero, i.size, i.bytes)) = some (some (.slice none 0 0), 1, 24) := by kernel_rfl
theorem ints4_base {b b' : Nat} (hb : b' ≤ b) (w : World) (v : Value) (x : List (List (List (List Int)))) (bs : List Nat) (h : Ints4E b w v x bs) : Ints4E b' w v x bs := manyE_base (ints3_base hb) h hb
theorem pushes3_base {b b' : Nat} (hb : b' ≤ b) (w : World) (v : Value) (x : List (List (List (Int × Int)))) (bs : List Nat) (h : Push3E b w v x bs) : Push3E b' w v x bs := manyE_base (pushes2_base hb) h hb
def cnt4 {α : Type} (xs : List (List (List (List α)))) : Nat := xs.length + szL cnt3 xs
theorem cells_rows3_ints3 : Try.prog.cellsOf 26 = 1 := by kernel_rfl
theorem cells_rows3_pushes2 : Try.prog.cellsOf 37 = 1 := by kernel_rfl
section
variable {H : Type} {enc : TypeId × Value → H} {w : World} {held : Bool}
theorem read_ints4 {n : Nat} {v : Value} {x : DataW H × List MemPlace} (h : DataW.trod enc Try.prog w 0 (fun _ => true) held n 25 [v] = some x) : ∃ y, Ints4R w v y ∧ ∀ z ∈ y, ∀ u ∈ z, ∀ s ∈ u, WfI s :=
  open_many Try.underlying25 cells_rows3_ints3 (fun _ _ _ h => read_ints3 h) h
theorem read_pushes3 {n : Nat} {v : Value} {x : DataW H × List MemPlace} (h : DataW.trod enc Try.prog w 0 (fun _ => true) held n 24 [v] = some x) : ∃ y, Push3R w v y ∧ ∀ z ∈ y, ∀ u ∈ z, WfP u :=
  open_many Try.underlying24 cells_rows3_pushes2 (fun _ _ _ h => read_pushes2 h) h
end

theorem bd1_of {α : Type} {xs : List α} (h : lenA xs ≤ 1048576) : Bd1 xs := h
theorem bd2_of {α : Type} {xs : List (List α)} (h : cnt2 xs ≤ 1048576) : Bd2 xs := by
  unfold cnt2 at h
  refine ⟨by omega, fun x hx => bd1_of ?_⟩
  have m := szL_mem (sz := lenA) _ _ hx
  omega
theorem bd3_of {α : Type} {xs : List (List (List α))} (h : cnt3 xs ≤ 1048576) : Bd3 xs := by
  unfold cnt3 at h
  refine ⟨by omega, fun x hx => bd2_of ?_⟩
  have m := szL_mem (sz := cnt2) _ _ hx
  omega
theorem bd4_of {α : Type} {xs : List (List (List (List α)))} (h : cnt4 xs ≤ 1048576) : Bd4 xs := by
  unfold cnt4 at h
  refine ⟨by omega, fun x hx => bd3_of ?_⟩
  have m := szL_mem (sz := cnt3) _ _ hx
  omega
theorem szL_le2 {α : Type} {f g : α → Nat} (h : ∀ x, f x ≤ 2 * g x) (xs : List α) : szL f xs ≤ 2 * szL g xs := by
  induction xs with
  | nil => exact Nat.zero_le _
  | cons y xs ih =>
    simp only [szL, List.map_cons, List.sum_cons] at ih ⊢
    have := h y
    omega
theorem le_bools (xs : List Bool) : xs.length ≤ 2 * lenA xs := by unfold lenA; omega
theorem le_ints (xs : List Int) : lenI xs ≤ 2 * lenA xs := by unfold lenA lenI; omega
theorem le_pushes (xs : List (Int × Int)) : lenP xs ≤ 2 * lenA xs := by unfold lenA lenP; omega
theorem le_ints2 (xs : List (List Int)) : szL lenI xs ≤ 2 * cnt2 xs := by have := szL_le2 le_ints xs; unfold cnt2; omega
theorem le_pushes2 (xs : List (List (Int × Int))) : szL lenP xs ≤ 2 * cnt2 xs := by have := szL_le2 le_pushes xs; unfold cnt2; omega
theorem le_ints3 (xs : List (List (List Int))) : szL (szL lenI) xs ≤ 2 * cnt3 xs := by have := szL_le2 le_ints2 xs; unfold cnt3; omega
theorem le_pushes3 (xs : List (List (List (Int × Int)))) : szL (szL lenP) xs ≤ 2 * cnt3 xs := by have := szL_le2 le_pushes2 xs; unfold cnt3; omega
theorem le_ints4 (xs : List (List (List (List Int)))) : szL (szL (szL lenI)) xs ≤ 2 * cnt4 xs := by have := szL_le2 le_ints3 xs; unfold cnt4; omega


set_option maxHeartbeats 1600000 in
set_option maxRecDepth 100000 in
theorem eq_pushes3 {base base' : Nat} {v v' : Value} {xs : List (List (List (Int × Int)))} {bs bs' : List Nat} (w : World) (hn : Bd3 xs) (ha : Push3E base w v xs bs) (hb : Push3E base' w v' xs bs') :
    Calls Try.prog 42 #[v, v'] w (SeenPost (.bool true) w) := by
  obtain ⟨A, ca, rfl⟩ := ha.slice
  obtain ⟨B, cb, rfl⟩ := hb.slice
  obtain ⟨hn1, hn2⟩ := hn
  obtain ⟨n, hn'⟩ : ∃ n, n = xs.length := ⟨_, rfl⟩
  have Hn := Lib.hid hn'
  have Hn2 := Lib.hid hn2
  rw [← hn'] at ha hb hn1 ⊢
  clear hn' hn2
  go_enter Try.func42, Try.ntmps42
  go_wp2
  go_loopw [5] (fun i wr => ∃ k : Nat, k ≤ n ∧ i = .int .i64 k ∧ Below w.heap.size w wr) (fun i _ => n - (intOf i).toNat)
  case atStart => exact ⟨0, Nat.zero_le _, rfl, Below.refl _ _⟩
  case round =>
    obtain ⟨k, hk, rfl, hB⟩ := hrel
    by_cases hlt : k < n
    · have hkx : k < xs.length := by rw [← Hn.out]; exact hlt
      obtain ⟨x, hx⟩ : ∃ x, xs[k]? = some x := ⟨_, List.getElem?_eq_getElem hkx⟩
      obtain ⟨g, c, u, cs, hv, hc, hE, hg, _⟩ := ha.at_ (push2_ok _) hx
      obtain ⟨g', c', u', cs', hv', hc', hE', hg', _⟩ := hb.at_ (push2_ok _) hx
      simp only [Value.slice.injEq] at hv hv'
      obtain ⟨rfl, h9, rfl⟩ := hv
      clear h9
      obtain ⟨rfl, h9, rfl⟩ := hv'
      clear h9
      have hc1 := (hB.cell (p := ⟨g, k, none⟩) hg).trans hc
      have hc2 := (hB.cell (p := ⟨g', k, none⟩) hg').trans hc'
      have hs := hB.size
      have hq := fun (W : World) (hw : Below w.heap.size w W) => eq_pushes2 W (Hn2.out x (List.mem_of_getElem? hx)) ((push2_ok _).later hE hw) ((push2_ok _).later hE' hw)
      have Hq := Lib.hid hq
      have hmx : Try.prog.follows .mixedOrders = true := by kernel_rfl
      clear hkx hx hc hc' hq hE hE'
      go_wp2
      go_region_with (go_at_call 62; refine (Hq.out _ (by first | exact hB.drew | exact hB)).mono ?_; rintro e w2 ⟨rfl, hb2⟩)
      all_goals
        go_wp2
        go_roundw
        case rel => exact ⟨k + 1, by omega, by go_num, by first | exact hB.drew.trans (hb2.mono hs) | exact hB.trans (hb2.mono hs)⟩
        case measure => simp [intOf]; omega
    · go_wp2
      go_ret
      exact ⟨rfl, hB⟩

set_option maxHeartbeats 1600000 in
set_option maxRecDepth 100000 in
theorem mark_pushes3 {base : Nat} {v : Value} {xs : List (List (List (Int × Int)))} {bs : List Nat} (k0 : Nat) (w : World) (hn : Bd3 xs) (hk0 : k0 + szL (szL lenP) xs ≤ 8388608) (ha : Push3E base w v xs bs) :
    Calls Try.prog 69 #[v, .int .i64 (k0 : Int)] w (MarkPost (Push3E base) v (mkP3 k0 xs) bs (k0 + szL (szL lenP) xs) w) := by
  obtain ⟨A, ca, rfl⟩ := ha.slice
  obtain ⟨hn1, hn2⟩ := hn
  obtain ⟨n, hn'⟩ : ∃ n, n = xs.length := ⟨_, rfl⟩
  obtain ⟨t, ht⟩ : ∃ t, t = k0 + szL (szL lenP) xs := ⟨_, rfl⟩
  have Hn := Lib.hid hn'
  have Ht := Lib.hid ht
  have Hn2 := Lib.hid hn2
  rw [← hn'] at ha hn1 ⊢
  rw [← ht] at hk0 ⊢
  have hq0 : k0 ≤ t := by rw [ht]; omega
  have hle : Hid (∀ j, k0 + szL (szL lenP) (xs.take j) ≤ t) := by intro j; have := szL_take_le (sz := (szL lenP)) xs j; rw [ht]; omega
  clear hn' hn2 ht
  go_enter Try.func69, Try.ntmps69
  go_wp2
  go_loopw [1, 5] (fun kk i wr => ∃ j q : Nat, j ≤ n ∧ i = .int .i64 j ∧ kk = .int .i64 (q : Int) ∧ Hid (q = k0 + szL (szL lenP) (xs.take j)) ∧ Push3E base wr (.slice A n ca) (half mkP2 (szL lenP) k0 xs j) bs ∧ Turned bs w wr) (fun _ i _ => n - (intOf i).toNat)
  case atStart => exact ⟨0, k0, Nat.zero_le _, rfl, rfl, by show _ = _; simp [szL], by rw [half_zero]; exact ha, Turned.refl _ _⟩
  case round =>
    obtain ⟨j, q, hj, rfl, rfl, hq, hE, hT⟩ := hrel
    have hqt : q ≤ t := by rw [hq.out]; exact hle.out j
    by_cases hlt : j < n
    · have hjx : j < xs.length := by rw [← Hn.out]; exact hlt
      obtain ⟨x, hx⟩ : ∃ x, xs[j]? = some x := ⟨_, List.getElem?_eq_getElem hjx⟩
      obtain ⟨g, c, u, cs, hv, hc, hu, hg, hturn⟩ := hE.at_ (push2_ok _) (half_at hx)
      simp only [Value.slice.injEq] at hv
      obtain ⟨rfl, h9, rfl⟩ := hv
      clear h9
      have hq2 : Hid (q + (szL lenP) x = k0 + szL (szL lenP) (xs.take (j + 1))) := by show _ = _; rw [szL_take_succ hx, hq.out]; omega
      have hq3 : q + (szL lenP) x ≤ t := by rw [hq2.out]; exact hle.out (j + 1)
      have hm := mark_pushes2 q wr (Hn2.out x (List.mem_of_getElem? hx)) (by first | omega | (show q + _ ≤ _; omega)) hu
      have hset := half_set (mk := mkP2) (sz := (szL lenP)) (k := k0) hx
      rw [← hq.out] at hset
      have Hset := Lib.hid hset
      have Hm := Lib.hid hm
      have Hturn := Lib.hid hturn
      clear hset hm hturn hx hjx hu
      go_wp2_with (go_at_call 65; refine Hm.out.mono ?_; rintro e w2 ⟨rfl, hu2, ht2⟩)
      obtain ⟨hE2, hT2⟩ := Hturn.out w2 _ ht2 hu2
      rw [Hset.out] at hE2
      go_roundw
      case rel => exact ⟨j + 1, q + (szL lenP) x, by omega, by go_num, by first | rfl | go_num, hq2, hE2, hT.trans hT2⟩
      case measure => simp [intOf]; omega
    · have e : j = n := by omega
      subst e
      have hqe : q = t := by rw [hq.out, Ht.out, Hn.out, List.take_length]
      subst hqe
      clear hlt hq hqt hq0
      go_wp2
      go_ret
      rw [Hn.out, half_all, ← Hn.out] at hE
      exact ⟨rfl, hE, hT⟩

set_option maxHeartbeats 1600000 in
set_option maxRecDepth 100000 in
theorem held_pushes3 {base : Nat} {v : Value} {xs : List (List (List (Int × Int)))} {bs : List Nat} (k0 : Nat) (w : World) (hn : Bd3 xs) (hk0 : k0 + szL (szL lenP) xs ≤ 8388608) (ha : Push3E base w v (mkP3 k0 xs) bs) :
    Calls Try.prog 73 #[v, .int .i64 (k0 : Int)] w (SeenPost (.int .i64 ((k0 + szL (szL lenP) xs : Nat) : Int)) w) := by
  obtain ⟨A, ca, rfl⟩ := ha.slice
  rw [mkL_len] at ha ⊢
  obtain ⟨hn1, hn2⟩ := hn
  obtain ⟨n, hn'⟩ : ∃ n, n = xs.length := ⟨_, rfl⟩
  obtain ⟨t, ht⟩ : ∃ t, t = k0 + szL (szL lenP) xs := ⟨_, rfl⟩
  have Hn := Lib.hid hn'
  have Ht := Lib.hid ht
  have Hn2 := Lib.hid hn2
  rw [← hn'] at ha hn1 ⊢
  rw [← ht] at hk0 ⊢
  have hq0 : k0 ≤ t := by rw [ht]; omega
  have hle : Hid (∀ j, k0 + szL (szL lenP) (xs.take j) ≤ t) := by intro j; have := szL_take_le (sz := (szL lenP)) xs j; rw [ht]; omega
  clear hn' hn2 ht
  go_enter Try.func73, Try.ntmps73
  go_wp2
  go_loopw [1, 5] (fun kk i wr => ∃ j q : Nat, j ≤ n ∧ i = .int .i64 j ∧ kk = .int .i64 (q : Int) ∧ Hid (q = k0 + szL (szL lenP) (xs.take j)) ∧ Below w.heap.size w wr) (fun _ i _ => n - (intOf i).toNat)
  case atStart => exact ⟨0, k0, Nat.zero_le _, rfl, rfl, by show _ = _; simp [szL], Below.refl _ _⟩
  case round =>
    obtain ⟨j, q, hj, rfl, rfl, hq, hB⟩ := hrel
    have hqt : q ≤ t := by rw [hq.out]; exact hle.out j
    by_cases hlt : j < n
    · have hjx : j < xs.length := by rw [← Hn.out]; exact hlt
      obtain ⟨x, hx⟩ : ∃ x, xs[j]? = some x := ⟨_, List.getElem?_eq_getElem hjx⟩
      have hmk := mkL_at (mk := mkP2) (sz := (szL lenP)) (k := k0) hx
      rw [← hq.out] at hmk
      obtain ⟨g, c, u, cs, hv, hc, hu, hg, _⟩ := ha.at_ (push2_ok _) hmk
      simp only [Value.slice.injEq] at hv
      obtain ⟨rfl, h9, rfl⟩ := hv
      clear h9
      have hc1 := (hB.cell (p := ⟨g, j, none⟩) hg).trans hc
      have hs := hB.size
      have hq2 : Hid (q + (szL lenP) x = k0 + szL (szL lenP) (xs.take (j + 1))) := by show _ = _; rw [szL_take_succ hx, hq.out]; omega
      have hq3 : q + (szL lenP) x ≤ t := by rw [hq2.out]; exact hle.out (j + 1)
      have hm := held_pushes2 q wr (Hn2.out x (List.mem_of_getElem? hx)) (by first | omega | (show q + _ ≤ _; omega)) ((push2_ok _).later hu hB)
      have Hm := Lib.hid hm
      clear hmk hm hx hjx hu hc
      go_wp2_with (go_at_call 106; refine Hm.out.mono ?_; rintro e w2 ⟨rfl, hb2⟩)
      go_roundw
      case rel => exact ⟨j + 1, q + (szL lenP) x, by omega, by go_num, by first | rfl | go_num, hq2, hB.trans (hb2.mono hs)⟩
      case measure => simp [intOf]; omega
    · have e : j = n := by omega
      subst e
      have hqe : q = t := by rw [hq.out, Ht.out, Hn.out, List.take_length]
      subst hqe
      clear hlt hq hqt hq0
      go_wp2
      go_ret
      exact ⟨rfl, hB⟩

set_option maxHeartbeats 1600000 in
set_option maxRecDepth 100000 in
theorem eq_ints4 {base base' : Nat} {v v' : Value} {xs : List (List (List (List Int)))} {bs bs' : List Nat} (w : World) (hn : Bd4 xs) (ha : Ints4E base w v xs bs) (hb : Ints4E base' w v' xs bs') :
    Calls Try.prog 43 #[v, v'] w (SeenPost (.bool true) w) := by
  obtain ⟨A, ca, rfl⟩ := ha.slice
  obtain ⟨B, cb, rfl⟩ := hb.slice
  obtain ⟨hn1, hn2⟩ := hn
  obtain ⟨n, hn'⟩ : ∃ n, n = xs.length := ⟨_, rfl⟩
  have Hn := Lib.hid hn'
  have Hn2 := Lib.hid hn2
  rw [← hn'] at ha hb hn1 ⊢
  clear hn' hn2
  go_enter Try.func43, Try.ntmps43
  go_wp2
  go_loopw [5] (fun i wr => ∃ k : Nat, k ≤ n ∧ i = .int .i64 k ∧ Below w.heap.size w wr) (fun i _ => n - (intOf i).toNat)
  case atStart => exact ⟨0, Nat.zero_le _, rfl, Below.refl _ _⟩
  case round =>
    obtain ⟨k, hk, rfl, hB⟩ := hrel
    by_cases hlt : k < n
    · have hkx : k < xs.length := by rw [← Hn.out]; exact hlt
      obtain ⟨x, hx⟩ : ∃ x, xs[k]? = some x := ⟨_, List.getElem?_eq_getElem hkx⟩
      obtain ⟨g, c, u, cs, hv, hc, hE, hg, _⟩ := ha.at_ (ints3_ok _) hx
      obtain ⟨g', c', u', cs', hv', hc', hE', hg', _⟩ := hb.at_ (ints3_ok _) hx
      simp only [Value.slice.injEq] at hv hv'
      obtain ⟨rfl, h9, rfl⟩ := hv
      clear h9
      obtain ⟨rfl, h9, rfl⟩ := hv'
      clear h9
      have hc1 := (hB.cell (p := ⟨g, k, none⟩) hg).trans hc
      have hc2 := (hB.cell (p := ⟨g', k, none⟩) hg').trans hc'
      have hs := hB.size
      have hq := fun (W : World) (hw : Below w.heap.size w W) => eq_ints3 W (Hn2.out x (List.mem_of_getElem? hx)) ((ints3_ok _).later hE hw) ((ints3_ok _).later hE' hw)
      have Hq := Lib.hid hq
      have hmx : Try.prog.follows .mixedOrders = true := by kernel_rfl
      clear hkx hx hc hc' hq hE hE'
      go_wp2
      go_region_with (go_at_call 44; refine (Hq.out _ (by first | exact hB.drew | exact hB)).mono ?_; rintro e w2 ⟨rfl, hb2⟩)
      all_goals
        go_wp2
        go_roundw
        case rel => exact ⟨k + 1, by omega, by go_num, by first | exact hB.drew.trans (hb2.mono hs) | exact hB.trans (hb2.mono hs)⟩
        case measure => simp [intOf]; omega
    · go_wp2
      go_ret
      exact ⟨rfl, hB⟩

set_option maxHeartbeats 1600000 in
set_option maxRecDepth 100000 in
theorem mark_ints4 {base : Nat} {v : Value} {xs : List (List (List (List Int)))} {bs : List Nat} (k0 : Nat) (w : World) (hn : Bd4 xs) (hk0 : k0 + szL (szL (szL lenI)) xs ≤ 8388608) (ha : Ints4E base w v xs bs) :
    Calls Try.prog 70 #[v, .int .i64 (k0 : Int)] w (MarkPost (Ints4E base) v (mkI4 k0 xs) bs (k0 + szL (szL (szL lenI)) xs) w) := by
  obtain ⟨A, ca, rfl⟩ := ha.slice
  obtain ⟨hn1, hn2⟩ := hn
  obtain ⟨n, hn'⟩ : ∃ n, n = xs.length := ⟨_, rfl⟩
  obtain ⟨t, ht⟩ : ∃ t, t = k0 + szL (szL (szL lenI)) xs := ⟨_, rfl⟩
  have Hn := Lib.hid hn'
  have Ht := Lib.hid ht
  have Hn2 := Lib.hid hn2
  rw [← hn'] at ha hn1 ⊢
  rw [← ht] at hk0 ⊢
  have hq0 : k0 ≤ t := by rw [ht]; omega
  have hle : Hid (∀ j, k0 + szL (szL (szL lenI)) (xs.take j) ≤ t) := by intro j; have := szL_take_le (sz := (szL (szL lenI))) xs j; rw [ht]; omega
  clear hn' hn2 ht
  go_enter Try.func70, Try.ntmps70
  go_wp2
  go_loopw [1, 5] (fun kk i wr => ∃ j q : Nat, j ≤ n ∧ i = .int .i64 j ∧ kk = .int .i64 (q : Int) ∧ Hid (q = k0 + szL (szL (szL lenI)) (xs.take j)) ∧ Ints4E base wr (.slice A n ca) (half mkI3 (szL (szL lenI)) k0 xs j) bs ∧ Turned bs w wr) (fun _ i _ => n - (intOf i).toNat)
  case atStart => exact ⟨0, k0, Nat.zero_le _, rfl, rfl, by show _ = _; simp [szL], by rw [half_zero]; exact ha, Turned.refl _ _⟩
  case round =>
    obtain ⟨j, q, hj, rfl, rfl, hq, hE, hT⟩ := hrel
    have hqt : q ≤ t := by rw [hq.out]; exact hle.out j
    by_cases hlt : j < n
    · have hjx : j < xs.length := by rw [← Hn.out]; exact hlt
      obtain ⟨x, hx⟩ : ∃ x, xs[j]? = some x := ⟨_, List.getElem?_eq_getElem hjx⟩
      obtain ⟨g, c, u, cs, hv, hc, hu, hg, hturn⟩ := hE.at_ (ints3_ok _) (half_at hx)
      simp only [Value.slice.injEq] at hv
      obtain ⟨rfl, h9, rfl⟩ := hv
      clear h9
      have hq2 : Hid (q + (szL (szL lenI)) x = k0 + szL (szL (szL lenI)) (xs.take (j + 1))) := by show _ = _; rw [szL_take_succ hx, hq.out]; omega
      have hq3 : q + (szL (szL lenI)) x ≤ t := by rw [hq2.out]; exact hle.out (j + 1)
      have hm := mark_ints3 q wr (Hn2.out x (List.mem_of_getElem? hx)) (by first | omega | (show q + _ ≤ _; omega)) hu
      have hset := half_set (mk := mkI3) (sz := (szL (szL lenI))) (k := k0) hx
      rw [← hq.out] at hset
      have Hset := Lib.hid hset
      have Hm := Lib.hid hm
      have Hturn := Lib.hid hturn
      clear hset hm hturn hx hjx hu
      go_wp2_with (go_at_call 66; refine Hm.out.mono ?_; rintro e w2 ⟨rfl, hu2, ht2⟩)
      obtain ⟨hE2, hT2⟩ := Hturn.out w2 _ ht2 hu2
      rw [Hset.out] at hE2
      go_roundw
      case rel => exact ⟨j + 1, q + (szL (szL lenI)) x, by omega, by go_num, by first | rfl | go_num, hq2, hE2, hT.trans hT2⟩
      case measure => simp [intOf]; omega
    · have e : j = n := by omega
      subst e
      have hqe : q = t := by rw [hq.out, Ht.out, Hn.out, List.take_length]
      subst hqe
      clear hlt hq hqt hq0
      go_wp2
      go_ret
      rw [Hn.out, half_all, ← Hn.out] at hE
      exact ⟨rfl, hE, hT⟩

set_option maxHeartbeats 1600000 in
set_option maxRecDepth 100000 in
theorem held_ints4 {base : Nat} {v : Value} {xs : List (List (List (List Int)))} {bs : List Nat} (k0 : Nat) (w : World) (hn : Bd4 xs) (hk0 : k0 + szL (szL (szL lenI)) xs ≤ 8388608) (ha : Ints4E base w v (mkI4 k0 xs) bs) :
    Calls Try.prog 74 #[v, .int .i64 (k0 : Int)] w (SeenPost (.int .i64 ((k0 + szL (szL (szL lenI)) xs : Nat) : Int)) w) := by
  obtain ⟨A, ca, rfl⟩ := ha.slice
  rw [mkL_len] at ha ⊢
  obtain ⟨hn1, hn2⟩ := hn
  obtain ⟨n, hn'⟩ : ∃ n, n = xs.length := ⟨_, rfl⟩
  obtain ⟨t, ht⟩ : ∃ t, t = k0 + szL (szL (szL lenI)) xs := ⟨_, rfl⟩
  have Hn := Lib.hid hn'
  have Ht := Lib.hid ht
  have Hn2 := Lib.hid hn2
  rw [← hn'] at ha hn1 ⊢
  rw [← ht] at hk0 ⊢
  have hq0 : k0 ≤ t := by rw [ht]; omega
  have hle : Hid (∀ j, k0 + szL (szL (szL lenI)) (xs.take j) ≤ t) := by intro j; have := szL_take_le (sz := (szL (szL lenI))) xs j; rw [ht]; omega
  clear hn' hn2 ht
  go_enter Try.func74, Try.ntmps74
  go_wp2
  go_loopw [1, 5] (fun kk i wr => ∃ j q : Nat, j ≤ n ∧ i = .int .i64 j ∧ kk = .int .i64 (q : Int) ∧ Hid (q = k0 + szL (szL (szL lenI)) (xs.take j)) ∧ Below w.heap.size w wr) (fun _ i _ => n - (intOf i).toNat)
  case atStart => exact ⟨0, k0, Nat.zero_le _, rfl, rfl, by show _ = _; simp [szL], Below.refl _ _⟩
  case round =>
    obtain ⟨j, q, hj, rfl, rfl, hq, hB⟩ := hrel
    have hqt : q ≤ t := by rw [hq.out]; exact hle.out j
    by_cases hlt : j < n
    · have hjx : j < xs.length := by rw [← Hn.out]; exact hlt
      obtain ⟨x, hx⟩ : ∃ x, xs[j]? = some x := ⟨_, List.getElem?_eq_getElem hjx⟩
      have hmk := mkL_at (mk := mkI3) (sz := (szL (szL lenI))) (k := k0) hx
      rw [← hq.out] at hmk
      obtain ⟨g, c, u, cs, hv, hc, hu, hg, _⟩ := ha.at_ (ints3_ok _) hmk
      simp only [Value.slice.injEq] at hv
      obtain ⟨rfl, h9, rfl⟩ := hv
      clear h9
      have hc1 := (hB.cell (p := ⟨g, j, none⟩) hg).trans hc
      have hs := hB.size
      have hq2 : Hid (q + (szL (szL lenI)) x = k0 + szL (szL (szL lenI)) (xs.take (j + 1))) := by show _ = _; rw [szL_take_succ hx, hq.out]; omega
      have hq3 : q + (szL (szL lenI)) x ≤ t := by rw [hq2.out]; exact hle.out (j + 1)
      have hm := held_ints3 q wr (Hn2.out x (List.mem_of_getElem? hx)) (by first | omega | (show q + _ ≤ _; omega)) ((ints3_ok _).later hu hB)
      have Hm := Lib.hid hm
      clear hmk hm hx hjx hu hc
      go_wp2_with (go_at_call 75; refine Hm.out.mono ?_; rintro e w2 ⟨rfl, hb2⟩)
      go_roundw
      case rel => exact ⟨j + 1, q + (szL (szL lenI)) x, by omega, by go_num, by first | rfl | go_num, hq2, hB.trans (hb2.mono hs)⟩
      case measure => simp [intOf]; omega
    · have e : j = n := by omega
      subst e
      have hqe : q = t := by rw [hq.out, Ht.out, Hn.out, List.take_length]
      subst hqe
      clear hlt hq hqt hq0
      go_wp2
      go_ret
      exact ⟨rfl, hB⟩

set_option maxHeartbeats 1600000 in
set_option maxRecDepth 100000 in
theorem to_pushes3 {v : Value} {xs : List (List (List (Int × Int)))} (w : World) (hn : Bd3 xs) (ha : Push3R w v xs) : Calls Try.prog 35 #[v] w (NewPost Push3E xs w) := by
  obtain ⟨A, ca, rfl, _, hA⟩ := ha
  obtain ⟨hn, hn2⟩ := hn
  obtain ⟨n, hn'⟩ : ∃ n, n = xs.length := ⟨_, rfl⟩
  have Hn := Lib.hid hn'
  have HA := Lib.hid hA
  have Hn2 := Lib.hid hn2
  rw [← hn'] at hn ⊢
  have hmk := run_make_row' (P := Try.prog) 31 44 (.slice none 0 0) 24 Try.underlying31 toInfo_pushes2 rfl .i64 .i64 n (by omega) (by omega)
  have hst : PartE w.heap.size w.heap.size n 44 (Push2E w.heap.size) xs 0 [] [] (w.alloc (.cells (madeCells #[.slice none 0 0] n) 44)) := PartE.start (by unfold maxLen; omega)
  have Hst := Lib.hid hst
  clear hn' hA hst hn2
  go_enter Try.func35, Try.ntmps35
  go_wp2
  go_loopw [4] (fun i wr => ∃ (j : Nat) (us : List Value) (bss : List (List Nat)), j ≤ n ∧ i = .int .i64 j ∧ PartE w.heap.size w.heap.size n 44 (Push2E w.heap.size) xs j us bss wr ∧ Below w.heap.size w wr) (fun i _ => n - (intOf i).toNat)
  case atStart => exact ⟨0, [], [], Nat.zero_le _, rfl, Hst.out, (Below.refl _ _).alloc (Nat.le_refl _) _⟩
  case round =>
    obtain ⟨j, us, bss, hj, rfl, hP, hB⟩ := hrel
    by_cases hlt : j < n
    · have hjx : j < xs.length := by rw [← Hn.out]; exact hlt
      obtain ⟨x, hx⟩ : ∃ x, xs[j]? = some x := ⟨_, List.getElem?_eq_getElem hjx⟩
      obtain ⟨A', u, rfl, hl, hc0, hu⟩ := HA.out j x hx
      have hc := (hB.cell (p := A'.add j) (by rw [add_block]; exact hl)).trans hc0
      have hs := hB.size
      have hsub := to_pushes2 wr (Hn2.out x (List.mem_of_getElem? hx)) (pushes2_r.later hu hB)
      have Hsub := Lib.hid hsub
      have hgl := (hP.row.lt w.heap.size rfl).2
      have Hx := Lib.hid hx
      clear hjx hx hc0 hsub hu
      go_wp2_with (go_at_call 50; refine Hsub.out.mono ?_; rintro e w2 ⟨v2, cs, rfl, hv2, hb2⟩; have hrow2 := row_below hP.row hb2; have hf := hrow2.frozenAt j; obtain ⟨q, hq⟩ : ∃ q, w2.cell? ⟨w.heap.size, j, none⟩ = some q := (by
        have h1 := hrow2.cellAt j (by omega)
        have h2 := hrow2.1
        rw [h1, List.getElem?_eq_getElem (by rw [h2]; omega)]
        exact ⟨_, rfl⟩); obtain ⟨A2, c2, rfl⟩ := ManyE.slice hv2)
      have hP2 := hP.next (E' := Push2E w.heap.size) (push2_ok _) Hn.out.symm hlt (Nat.le_refl _) Hx.out hb2 (pushes2_base hs _ _ _ _ hv2) (fun b hb => ((push2_ok _).lt hv2 b hb).1) ((push2_ok _).nodup hv2)
      have hB2 := (hB.trans (hb2.mono hs)).setCell (p := ⟨w.heap.size, j, none⟩) (Nat.le_refl _) (.slice A2 x.length c2)
      go_roundw
      case rel => exact ⟨j + 1, _, _, by omega, by go_num, hP2, hB2⟩
      case measure => simp [intOf]; omega
    · have e : j = n := by omega
      subst e
      have hD := hP.done Hn.out.symm
      go_wp2
      go_ret
      exact ⟨_, _, rfl, hD, hB⟩

set_option maxHeartbeats 1600000 in
set_option maxRecDepth 100000 in
theorem to_ints4 {v : Value} {xs : List (List (List (List Int)))} (w : World) (hn : Bd4 xs) (ha : Ints4R w v xs) : Calls Try.prog 36 #[v] w (NewPost Ints4E xs w) := by
  obtain ⟨A, ca, rfl, _, hA⟩ := ha
  obtain ⟨hn, hn2⟩ := hn
  obtain ⟨n, hn'⟩ : ∃ n, n = xs.length := ⟨_, rfl⟩
  have Hn := Lib.hid hn'
  have HA := Lib.hid hA
  have Hn2 := Lib.hid hn2
  rw [← hn'] at hn ⊢
  have hmk := run_make_row' (P := Try.prog) 25 26 (.slice none 0 0) 24 Try.underlying25 toInfo_ints3 rfl .i64 .i64 n (by omega) (by omega)
  have hst : PartE w.heap.size w.heap.size n 26 (Ints3E w.heap.size) xs 0 [] [] (w.alloc (.cells (madeCells #[.slice none 0 0] n) 26)) := PartE.start (by unfold maxLen; omega)
  have Hst := Lib.hid hst
  clear hn' hA hst hn2
  go_enter Try.func36, Try.ntmps36
  go_wp2
  go_loopw [4] (fun i wr => ∃ (j : Nat) (us : List Value) (bss : List (List Nat)), j ≤ n ∧ i = .int .i64 j ∧ PartE w.heap.size w.heap.size n 26 (Ints3E w.heap.size) xs j us bss wr ∧ Below w.heap.size w wr) (fun i _ => n - (intOf i).toNat)
  case atStart => exact ⟨0, [], [], Nat.zero_le _, rfl, Hst.out, (Below.refl _ _).alloc (Nat.le_refl _) _⟩
  case round =>
    obtain ⟨j, us, bss, hj, rfl, hP, hB⟩ := hrel
    by_cases hlt : j < n
    · have hjx : j < xs.length := by rw [← Hn.out]; exact hlt
      obtain ⟨x, hx⟩ : ∃ x, xs[j]? = some x := ⟨_, List.getElem?_eq_getElem hjx⟩
      obtain ⟨A', u, rfl, hl, hc0, hu⟩ := HA.out j x hx
      have hc := (hB.cell (p := A'.add j) (by rw [add_block]; exact hl)).trans hc0
      have hs := hB.size
      have hsub := to_ints3 wr (Hn2.out x (List.mem_of_getElem? hx)) (ints3_r.later hu hB)
      have Hsub := Lib.hid hsub
      have hgl := (hP.row.lt w.heap.size rfl).2
      have Hx := Lib.hid hx
      clear hjx hx hc0 hsub hu
      go_wp2_with (go_at_call 37; refine Hsub.out.mono ?_; rintro e w2 ⟨v2, cs, rfl, hv2, hb2⟩; have hrow2 := row_below hP.row hb2; have hf := hrow2.frozenAt j; obtain ⟨q, hq⟩ : ∃ q, w2.cell? ⟨w.heap.size, j, none⟩ = some q := (by
        have h1 := hrow2.cellAt j (by omega)
        have h2 := hrow2.1
        rw [h1, List.getElem?_eq_getElem (by rw [h2]; omega)]
        exact ⟨_, rfl⟩); obtain ⟨A2, c2, rfl⟩ := ManyE.slice hv2)
      have hP2 := hP.next (E' := Ints3E w.heap.size) (ints3_ok _) Hn.out.symm hlt (Nat.le_refl _) Hx.out hb2 (ints3_base hs _ _ _ _ hv2) (fun b hb => ((ints3_ok _).lt hv2 b hb).1) ((ints3_ok _).nodup hv2)
      have hB2 := (hB.trans (hb2.mono hs)).setCell (p := ⟨w.heap.size, j, none⟩) (Nat.le_refl _) (.slice A2 x.length c2)
      go_roundw
      case rel => exact ⟨j + 1, _, _, by omega, by go_num, hP2, hB2⟩
      case measure => simp [intOf]; omega
    · have e : j = n := by omega
      subst e
      have hD := hP.done Hn.out.symm
      go_wp2
      go_ret
      exact ⟨_, _, rfl, hD, hB⟩

set_option maxHeartbeats 1600000 in
set_option maxRecDepth 100000 in
theorem sz_pushes3 {v : Value} {xs : List (List (List (Int × Int)))} (left : Nat) (w : World) (hl : left ≤ 1048576) (ha : Push3R w v xs) : Calls Try.prog 29 #[v, .int .i64 (left : Int)] w fun e w' => e = .returned (.int .i64 (dec left (cnt3 xs))) ∧ w = w' := by
  obtain ⟨A, ca, rfl, hm, hA⟩ := ha
  unfold maxLen at hm
  obtain ⟨n, hn'⟩ : ∃ n, n = xs.length := ⟨_, rfl⟩
  obtain ⟨t, ht⟩ : ∃ t, t = cnt3 xs := ⟨_, rfl⟩
  have htn : t = n + szL cnt2 xs := by rw [ht, hn']; rfl
  have Hn := Lib.hid hn'
  have HA := Lib.hid hA
  have Ht := Lib.hid htn
  rw [← hn'] at hm ⊢
  rw [← ht]
  clear hn' hA ht htn
  by_cases h0 : n ≤ left
  · obtain ⟨q0, hq0⟩ : ∃ q0, q0 = left - n := ⟨_, rfl⟩
    have hq1 : q0 + n = left := by omega
    have hq2 : ((left : Int) - (n : Int)) = (q0 : Int) := by omega
    have hq3 : q0 ≤ 1048576 := by omega
    clear hq0
    have Hq1 := Lib.hid hq1
    have Hq2 := Lib.hid hq2
    clear hq1 hq2
    go_enter Try.func29, Try.ntmps29
    go_wp2
    go_loop [1, 5] (fun l i => ∃ j q : Nat, j ≤ n ∧ i = .int .i64 j ∧ l = .int .i64 (q : Int) ∧ q ≤ 1048576 ∧ Hid (q + n + szL cnt2 (xs.take j) = left)) (fun _ i => n - (intOf i).toNat)
    case atStart => exact ⟨0, q0, Nat.zero_le _, rfl, by rw [Hq2.out], hq3, by show _ = _; rw [← Hq1.out]; simp [szL]⟩
    case round =>
      obtain ⟨j, q, hj, rfl, rfl, hq, hsum⟩ := hrel
      by_cases hlt : j < n
      · have hjx : j < xs.length := by rw [← Hn.out]; exact hlt
        obtain ⟨x, hx⟩ : ∃ x, xs[j]? = some x := ⟨_, List.getElem?_eq_getElem hjx⟩
        obtain ⟨A', u, rfl, _, hc, hu⟩ := HA.out j x hx
        have hss := szL_take_succ (sz := cnt2) hx
        have hle := szL_take_le (sz := cnt2) xs (j + 1)
        obtain ⟨y, hy⟩ : ∃ y, y = cnt2 x := ⟨_, rfl⟩
        have hsub := sz_pushes2 q w hq hu
        rw [show cnt2 x = y from hy.symm] at hsub
        rw [← hy] at hss
        have Hss := Lib.hid hss
        have Hle := Lib.hid hle
        clear hss hle hjx hx hy hu
        by_cases hyq : y ≤ q
        · rw [dec_yes hyq] at hsub
          have Hsub := Lib.hid hsub
          obtain ⟨q', hq'⟩ : ∃ q', q' = q - y := ⟨_, rfl⟩
          have hq2 : q' + y = q := by omega
          rw [← hq'] at Hsub
          clear hsub hq'
          go_wp2_with (go_at_call 45; refine Hsub.out.mono ?_; rintro e w' ⟨rfl, rfl⟩)
          go_round
          case rel => exact ⟨j + 1, q', by omega, by go_num, rfl, by omega, by show _ = _; have := hsum.out; have := Hss.out; omega⟩
          case measure => simp [intOf]; omega
        · rw [dec_no hyq] at hsub
          have Hsub := Lib.hid hsub
          have hno : ¬ t ≤ left := by
            have := hsum.out
            have := Hss.out
            have := Hle.out
            have := Ht.out
            omega
          have hd := Lib.hid (dec_no hno)
          clear hsub hyq hno
          go_wp2_with (go_at_call 45; refine Hsub.out.mono ?_; rintro e w' ⟨rfl, rfl⟩)
          go_ret
          exact ⟨by rw [hd.out]; rfl, rfl⟩
      · have e : j = n := by omega
        subst e
        have hall : q + t = left := by
          have h1 := hsum.out
          rw [Hn.out, List.take_length] at h1
          have := Ht.out
          have := Hn.out
          omega
        have hv : ((left - t : Nat) : Int) = (q : Int) := by omega
        have hd := Lib.hid ((dec_yes (left := left) (n := t) (by omega)).trans hv)
        clear hall hv hsum
        go_wp2
        go_ret
        exact ⟨by rw [hd.out]; rfl, rfl⟩
  · have h' : left < n := by omega
    have hno : ¬ t ≤ left := by have := Ht.out; omega
    rw [dec_no hno]
    clear h0 hno
    go_enter Try.func29, Try.ntmps29
    go_wp2
    go_ret
    exact ⟨rfl, rfl⟩

set_option maxHeartbeats 1600000 in
set_option maxRecDepth 100000 in
theorem sz_ints4 {v : Value} {xs : List (List (List (List Int)))} (left : Nat) (w : World) (hl : left ≤ 1048576) (ha : Ints4R w v xs) : Calls Try.prog 30 #[v, .int .i64 (left : Int)] w fun e w' => e = .returned (.int .i64 (dec left (cnt4 xs))) ∧ w = w' := by
  obtain ⟨A, ca, rfl, hm, hA⟩ := ha
  unfold maxLen at hm
  obtain ⟨n, hn'⟩ : ∃ n, n = xs.length := ⟨_, rfl⟩
  obtain ⟨t, ht⟩ : ∃ t, t = cnt4 xs := ⟨_, rfl⟩
  have htn : t = n + szL cnt3 xs := by rw [ht, hn']; rfl
  have Hn := Lib.hid hn'
  have HA := Lib.hid hA
  have Ht := Lib.hid htn
  rw [← hn'] at hm ⊢
  rw [← ht]
  clear hn' hA ht htn
  by_cases h0 : n ≤ left
  · obtain ⟨q0, hq0⟩ : ∃ q0, q0 = left - n := ⟨_, rfl⟩
    have hq1 : q0 + n = left := by omega
    have hq2 : ((left : Int) - (n : Int)) = (q0 : Int) := by omega
    have hq3 : q0 ≤ 1048576 := by omega
    clear hq0
    have Hq1 := Lib.hid hq1
    have Hq2 := Lib.hid hq2
    clear hq1 hq2
    go_enter Try.func30, Try.ntmps30
    go_wp2
    go_loop [1, 5] (fun l i => ∃ j q : Nat, j ≤ n ∧ i = .int .i64 j ∧ l = .int .i64 (q : Int) ∧ q ≤ 1048576 ∧ Hid (q + n + szL cnt3 (xs.take j) = left)) (fun _ i => n - (intOf i).toNat)
    case atStart => exact ⟨0, q0, Nat.zero_le _, rfl, by rw [Hq2.out], hq3, by show _ = _; rw [← Hq1.out]; simp [szL]⟩
    case round =>
      obtain ⟨j, q, hj, rfl, rfl, hq, hsum⟩ := hrel
      by_cases hlt : j < n
      · have hjx : j < xs.length := by rw [← Hn.out]; exact hlt
        obtain ⟨x, hx⟩ : ∃ x, xs[j]? = some x := ⟨_, List.getElem?_eq_getElem hjx⟩
        obtain ⟨A', u, rfl, _, hc, hu⟩ := HA.out j x hx
        have hss := szL_take_succ (sz := cnt3) hx
        have hle := szL_take_le (sz := cnt3) xs (j + 1)
        obtain ⟨y, hy⟩ : ∃ y, y = cnt3 x := ⟨_, rfl⟩
        have hsub := sz_ints3 q w hq hu
        rw [show cnt3 x = y from hy.symm] at hsub
        rw [← hy] at hss
        have Hss := Lib.hid hss
        have Hle := Lib.hid hle
        clear hss hle hjx hx hy hu
        by_cases hyq : y ≤ q
        · rw [dec_yes hyq] at hsub
          have Hsub := Lib.hid hsub
          obtain ⟨q', hq'⟩ : ∃ q', q' = q - y := ⟨_, rfl⟩
          have hq2 : q' + y = q := by omega
          rw [← hq'] at Hsub
          clear hsub hq'
          go_wp2_with (go_at_call 31; refine Hsub.out.mono ?_; rintro e w' ⟨rfl, rfl⟩)
          go_round
          case rel => exact ⟨j + 1, q', by omega, by go_num, rfl, by omega, by show _ = _; have := hsum.out; have := Hss.out; omega⟩
          case measure => simp [intOf]; omega
        · rw [dec_no hyq] at hsub
          have Hsub := Lib.hid hsub
          have hno : ¬ t ≤ left := by
            have := hsum.out
            have := Hss.out
            have := Hle.out
            have := Ht.out
            omega
          have hd := Lib.hid (dec_no hno)
          clear hsub hyq hno
          go_wp2_with (go_at_call 31; refine Hsub.out.mono ?_; rintro e w' ⟨rfl, rfl⟩)
          go_ret
          exact ⟨by rw [hd.out]; rfl, rfl⟩
      · have e : j = n := by omega
        subst e
        have hall : q + t = left := by
          have h1 := hsum.out
          rw [Hn.out, List.take_length] at h1
          have := Ht.out
          have := Hn.out
          omega
        have hv : ((left - t : Nat) : Int) = (q : Int) := by omega
        have hd := Lib.hid ((dec_yes (left := left) (n := t) (by omega)).trans hv)
        clear hall hv hsum
        go_wp2
        go_ret
        exact ⟨by rw [hd.out]; rfl, rfl⟩
  · have h' : left < n := by omega
    have hno : ¬ t ≤ left := by have := Ht.out; omega
    rw [dec_no hno]
    clear h0 hno
    go_enter Try.func30, Try.ntmps30
    go_wp2
    go_ret
    exact ⟨rfl, rfl⟩
end Go.Proofs.Yticmekdfdilcpaa
