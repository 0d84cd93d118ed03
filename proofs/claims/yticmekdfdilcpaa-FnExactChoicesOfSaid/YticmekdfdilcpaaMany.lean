/- The law's own functions on rows of rows: they compare, mark, and find the marks. -/
import Derived.Test.YticmekdfdilcpaaLeaf
namespace Go.Proofs.Yticmekdfdilcpaa
open Go.RowKit

def Bd1 {α : Type} (xs : List α) : Prop := xs.length ≤ 1048576
def Bd2 {α : Type} (xs : List (List α)) : Prop := xs.length ≤ 1048576 ∧ ∀ x ∈ xs, Bd1 x
def Bd3 {α : Type} (xs : List (List (List α))) : Prop := xs.length ≤ 1048576 ∧ ∀ x ∈ xs, Bd2 x

section
variable {α : Type} {base : Nat} {e : TypeId} {E : EP α} {w : World} {v : Value} {xs : List α} {bs : List Nat}
theorem ManyE.slice (h : ManyE base e E w v xs bs) : ∃ A c, v = .slice A xs.length c := by
  obtain ⟨vs, bss, hr, _⟩ := h
  rcases hr.2 with ⟨rfl, h0⟩ | ⟨g, cap, cur, rfl, _⟩
  · exact ⟨none, 0, by rw [h0]⟩
  · exact ⟨_, _, rfl⟩
end
abbrev Ints2E (base : Nat) : EP (List (List Int)) := ManyE base 22 (IntsE base)
abbrev Ints3E (base : Nat) : EP (List (List (List Int))) := ManyE base 38 (Ints2E base)
abbrev Push2E (base : Nat) : EP (List (List (Int × Int))) := ManyE base 94 (PushE base)
theorem ints_ok (base : Nat) : EP.Ok base (IntsE base) := RowE.ok _ _ _ _
theorem bools_ok (base : Nat) : EP.Ok base (BoolsE base) := RowE.ok _ _ _ _
theorem push_ok (base : Nat) : EP.Ok base (PushE base) := RowE.ok _ _ _ _
theorem ints2_ok (base : Nat) : EP.Ok base (Ints2E base) := ManyE.ok _ (ints_ok base)
theorem ints3_ok (base : Nat) : EP.Ok base (Ints3E base) := ManyE.ok _ (ints2_ok base)
theorem push2_ok (base : Nat) : EP.Ok base (Push2E base) := ManyE.ok _ (push_ok base)
def lenI (x : List Int) : Nat := x.length
def lenP (x : List (Int × Int)) : Nat := 2 * x.length
abbrev mkI2 := mkL mkI lenI
abbrev mkI3 := mkL mkI2 (szL lenI)
abbrev mkP2 := mkL mkP lenP


set_option maxHeartbeats 1600000 in
set_option maxRecDepth 100000 in
theorem eq_ints2 {base base' : Nat} {v v' : Value} {xs : List (List Int)} {bs bs' : List Nat} (w : World) (hn : Bd2 xs) (ha : Ints2E base w v xs bs) (hb : Ints2E base' w v' xs bs') :
    Calls Try.prog 63 #[v, v'] w (SeenPost (.bool true) w) := by
  obtain ⟨A, ca, rfl⟩ := ha.slice
  obtain ⟨B, cb, rfl⟩ := hb.slice
  obtain ⟨hn1, hn2⟩ := hn
  obtain ⟨n, hn'⟩ : ∃ n, n = xs.length := ⟨_, rfl⟩
  have Hn := Lib.hid hn'
  have Hn2 := Lib.hid hn2
  rw [← hn'] at ha hb hn1 ⊢
  clear hn' hn2
  go_enter Try.func63, Try.ntmps63
  go_wp2
  go_loopw [5] (fun i wr => ∃ k : Nat, k ≤ n ∧ i = .int .i64 k ∧ Below w.heap.size w wr) (fun i _ => n - (intOf i).toNat)
  case atStart => exact ⟨0, Nat.zero_le _, rfl, Below.refl _ _⟩
  case round =>
    obtain ⟨k, hk, rfl, hB⟩ := hrel
    by_cases hlt : k < n
    · have hkx : k < xs.length := by rw [← Hn.out]; exact hlt
      obtain ⟨x, hx⟩ : ∃ x, xs[k]? = some x := ⟨_, List.getElem?_eq_getElem hkx⟩
      obtain ⟨g, c, u, cs, hv, hc, hE, hg, _⟩ := ha.at_ (ints_ok _) hx
      obtain ⟨g', c', u', cs', hv', hc', hE', hg', _⟩ := hb.at_ (ints_ok _) hx
      simp only [Value.slice.injEq] at hv hv'
      obtain ⟨rfl, h9, rfl⟩ := hv
      clear h9
      obtain ⟨rfl, h9, rfl⟩ := hv'
      clear h9
      have hc1 := (hB.cell (p := ⟨g, k, none⟩) hg).trans hc
      have hc2 := (hB.cell (p := ⟨g', k, none⟩) hg').trans hc'
      have hs := hB.size
      have hq := fun (W : World) (hw : Below w.heap.size w W) => eq_ints W (Hn2.out x (List.mem_of_getElem? hx)) ((ints_ok _).later hE hw) ((ints_ok _).later hE' hw)
      have Hq := Lib.hid hq
      have hmx : Try.prog.follows .mixedOrders = true := by kernel_rfl
      clear hkx hx hc hc' hq hE hE'
      go_wp2
      go_region_with (go_at_call 40; refine (Hq.out _ (by first | exact hB.drew | exact hB)).mono ?_; rintro e w2 ⟨rfl, hb2⟩)
      all_goals
        go_wp2
        go_roundw
        case rel => exact ⟨k + 1, by omega, by go_num, by first | exact hB.drew.trans (hb2.mono hs) | exact hB.trans (hb2.mono hs)⟩
        case measure => simp [intOf]; omega
    · go_wp2
      go_ret
      exact ⟨rfl, hB⟩

set_option maxHeartbeats 1600000 in
set_option maxRecDepth 100000 in
theorem mark_ints2 {base : Nat} {v : Value} {xs : List (List Int)} {bs : List Nat} (k0 : Nat) (w : World) (hn : Bd2 xs) (hk0 : k0 + szL lenI xs ≤ 8388608) (ha : Ints2E base w v xs bs) :
    Calls Try.prog 67 #[v, .int .i64 (k0 : Int)] w (MarkPost (Ints2E base) v (mkI2 k0 xs) bs (k0 + szL lenI xs) w) := by
  obtain ⟨A, ca, rfl⟩ := ha.slice
  obtain ⟨hn1, hn2⟩ := hn
  obtain ⟨n, hn'⟩ : ∃ n, n = xs.length := ⟨_, rfl⟩
  obtain ⟨t, ht⟩ : ∃ t, t = k0 + szL lenI xs := ⟨_, rfl⟩
  have Hn := Lib.hid hn'
  have Ht := Lib.hid ht
  have Hn2 := Lib.hid hn2
  rw [← hn'] at ha hn1 ⊢
  rw [← ht] at hk0 ⊢
  have hq0 : k0 ≤ t := by rw [ht]; omega
  have hle : Hid (∀ j, k0 + szL lenI (xs.take j) ≤ t) := by intro j; have := szL_take_le (sz := lenI) xs j; rw [ht]; omega
  clear hn' hn2 ht
  go_enter Try.func67, Try.ntmps67
  go_wp2
  go_loopw [1, 5] (fun kk i wr => ∃ j q : Nat, j ≤ n ∧ i = .int .i64 j ∧ kk = .int .i64 (q : Int) ∧ Hid (q = k0 + szL lenI (xs.take j)) ∧ Ints2E base wr (.slice A n ca) (half mkI lenI k0 xs j) bs ∧ Turned bs w wr) (fun _ i _ => n - (intOf i).toNat)
  case atStart => exact ⟨0, k0, Nat.zero_le _, rfl, rfl, by show _ = _; simp [szL], by rw [half_zero]; exact ha, Turned.refl _ _⟩
  case round =>
    obtain ⟨j, q, hj, rfl, rfl, hq, hE, hT⟩ := hrel
    have hqt : q ≤ t := by rw [hq.out]; exact hle.out j
    by_cases hlt : j < n
    · have hjx : j < xs.length := by rw [← Hn.out]; exact hlt
      obtain ⟨x, hx⟩ : ∃ x, xs[j]? = some x := ⟨_, List.getElem?_eq_getElem hjx⟩
      obtain ⟨g, c, u, cs, hv, hc, hu, hg, hturn⟩ := hE.at_ (ints_ok _) (half_at hx)
      simp only [Value.slice.injEq] at hv
      obtain ⟨rfl, h9, rfl⟩ := hv
      clear h9
      have hq2 : Hid (q + lenI x = k0 + szL lenI (xs.take (j + 1))) := by show _ = _; rw [szL_take_succ hx, hq.out]; omega
      have hq3 : q + lenI x ≤ t := by rw [hq2.out]; exact hle.out (j + 1)
      have hm := mark_ints q wr (Hn2.out x (List.mem_of_getElem? hx)) (by first | omega | (show q + _ ≤ _; omega)) hu
      have hset := half_set (mk := mkI) (sz := lenI) (k := k0) hx
      rw [← hq.out] at hset
      have Hset := Lib.hid hset
      have Hm := Lib.hid hm
      have Hturn := Lib.hid hturn
      clear hset hm hturn hx hjx hu
      go_wp2_with (go_at_call 68; refine Hm.out.mono ?_; rintro e w2 ⟨rfl, hu2, ht2⟩)
      obtain ⟨hE2, hT2⟩ := Hturn.out w2 _ ht2 hu2
      rw [Hset.out] at hE2
      go_roundw
      case rel => exact ⟨j + 1, q + lenI x, by omega, by go_num, by first | rfl | go_num, hq2, hE2, hT.trans hT2⟩
      case measure => simp [intOf]; omega
    · have e : j = n := by omega
      subst e
      have hqe : q = t := by rw [hq.out, Ht.out, Hn.out, List.take_length]
      subst hqe
      clear hlt hq hqt hq0
      go_wp2
      go_ret
      rw [Hn.out, half_all, ← Hn.out] at hE
      exact ⟨rfl, hE, hT⟩

set_option maxHeartbeats 1600000 in
set_option maxRecDepth 100000 in
theorem held_ints2 {base : Nat} {v : Value} {xs : List (List Int)} {bs : List Nat} (k0 : Nat) (w : World) (hn : Bd2 xs) (hk0 : k0 + szL lenI xs ≤ 8388608) (ha : Ints2E base w v (mkI2 k0 xs) bs) :
    Calls Try.prog 107 #[v, .int .i64 (k0 : Int)] w (SeenPost (.int .i64 ((k0 + szL lenI xs : Nat) : Int)) w) := by
  obtain ⟨A, ca, rfl⟩ := ha.slice
  rw [mkL_len] at ha ⊢
  obtain ⟨hn1, hn2⟩ := hn
  obtain ⟨n, hn'⟩ : ∃ n, n = xs.length := ⟨_, rfl⟩
  obtain ⟨t, ht⟩ : ∃ t, t = k0 + szL lenI xs := ⟨_, rfl⟩
  have Hn := Lib.hid hn'
  have Ht := Lib.hid ht
  have Hn2 := Lib.hid hn2
  rw [← hn'] at ha hn1 ⊢
  rw [← ht] at hk0 ⊢
  have hq0 : k0 ≤ t := by rw [ht]; omega
  have hle : Hid (∀ j, k0 + szL lenI (xs.take j) ≤ t) := by intro j; have := szL_take_le (sz := lenI) xs j; rw [ht]; omega
  clear hn' hn2 ht
  go_enter Try.func107, Try.ntmps107
  go_wp2
  go_loopw [1, 5] (fun kk i wr => ∃ j q : Nat, j ≤ n ∧ i = .int .i64 j ∧ kk = .int .i64 (q : Int) ∧ Hid (q = k0 + szL lenI (xs.take j)) ∧ Below w.heap.size w wr) (fun _ i _ => n - (intOf i).toNat)
  case atStart => exact ⟨0, k0, Nat.zero_le _, rfl, rfl, by show _ = _; simp [szL], Below.refl _ _⟩
  case round =>
    obtain ⟨j, q, hj, rfl, rfl, hq, hB⟩ := hrel
    have hqt : q ≤ t := by rw [hq.out]; exact hle.out j
    by_cases hlt : j < n
    · have hjx : j < xs.length := by rw [← Hn.out]; exact hlt
      obtain ⟨x, hx⟩ : ∃ x, xs[j]? = some x := ⟨_, List.getElem?_eq_getElem hjx⟩
      have hmk := mkL_at (mk := mkI) (sz := lenI) (k := k0) hx
      rw [← hq.out] at hmk
      obtain ⟨g, c, u, cs, hv, hc, hu, hg, _⟩ := ha.at_ (ints_ok _) hmk
      simp only [Value.slice.injEq] at hv
      obtain ⟨rfl, h9, rfl⟩ := hv
      clear h9
      have hc1 := (hB.cell (p := ⟨g, j, none⟩) hg).trans hc
      have hs := hB.size
      have hq2 : Hid (q + lenI x = k0 + szL lenI (xs.take (j + 1))) := by show _ = _; rw [szL_take_succ hx, hq.out]; omega
      have hq3 : q + lenI x ≤ t := by rw [hq2.out]; exact hle.out (j + 1)
      have hm := held_ints q wr (Hn2.out x (List.mem_of_getElem? hx)) (by first | omega | (show q + _ ≤ _; omega)) ((ints_ok _).later hu hB)
      have Hm := Lib.hid hm
      clear hmk hm hx hjx hu hc
      go_wp2_with (go_at_call 71; refine Hm.out.mono ?_; rintro e w2 ⟨rfl, hb2⟩)
      go_roundw
      case rel => exact ⟨j + 1, q + lenI x, by omega, by go_num, by first | rfl | go_num, hq2, hB.trans (hb2.mono hs)⟩
      case measure => simp [intOf]; omega
    · have e : j = n := by omega
      subst e
      have hqe : q = t := by rw [hq.out, Ht.out, Hn.out, List.take_length]
      subst hqe
      clear hlt hq hqt hq0
      go_wp2
      go_ret
      exact ⟨rfl, hB⟩

set_option maxHeartbeats 1600000 in
set_option maxRecDepth 100000 in
theorem eq_pushes2 {base base' : Nat} {v v' : Value} {xs : List (List (Int × Int))} {bs bs' : List Nat} (w : World) (hn : Bd2 xs) (ha : Push2E base w v xs bs) (hb : Push2E base' w v' xs bs') :
    Calls Try.prog 62 #[v, v'] w (SeenPost (.bool true) w) := by
  obtain ⟨A, ca, rfl⟩ := ha.slice
  obtain ⟨B, cb, rfl⟩ := hb.slice
  obtain ⟨hn1, hn2⟩ := hn
  obtain ⟨n, hn'⟩ : ∃ n, n = xs.length := ⟨_, rfl⟩
  have Hn := Lib.hid hn'
  have Hn2 := Lib.hid hn2
  rw [← hn'] at ha hb hn1 ⊢
  clear hn' hn2
  go_enter Try.func62, Try.ntmps62
  go_wp2
  go_loopw [5] (fun i wr => ∃ k : Nat, k ≤ n ∧ i = .int .i64 k ∧ Below w.heap.size w wr) (fun i _ => n - (intOf i).toNat)
  case atStart => exact ⟨0, Nat.zero_le _, rfl, Below.refl _ _⟩
  case round =>
    obtain ⟨k, hk, rfl, hB⟩ := hrel
    by_cases hlt : k < n
    · have hkx : k < xs.length := by rw [← Hn.out]; exact hlt
      obtain ⟨x, hx⟩ : ∃ x, xs[k]? = some x := ⟨_, List.getElem?_eq_getElem hkx⟩
      obtain ⟨g, c, u, cs, hv, hc, hE, hg, _⟩ := ha.at_ (push_ok _) hx
      obtain ⟨g', c', u', cs', hv', hc', hE', hg', _⟩ := hb.at_ (push_ok _) hx
      simp only [Value.slice.injEq] at hv hv'
      obtain ⟨rfl, h9, rfl⟩ := hv
      clear h9
      obtain ⟨rfl, h9, rfl⟩ := hv'
      clear h9
      have hc1 := (hB.cell (p := ⟨g, k, none⟩) hg).trans hc
      have hc2 := (hB.cell (p := ⟨g', k, none⟩) hg').trans hc'
      have hs := hB.size
      have hq := fun (W : World) (hw : Below w.heap.size w W) => eq_pushes W (Hn2.out x (List.mem_of_getElem? hx)) ((push_ok _).later hE hw) ((push_ok _).later hE' hw)
      have Hq := Lib.hid hq
      have hmx : Try.prog.follows .mixedOrders = true := by kernel_rfl
      clear hkx hx hc hc' hq hE hE'
      go_wp2
      go_region_with (go_at_call 104; refine (Hq.out _ (by first | exact hB.drew | exact hB)).mono ?_; rintro e w2 ⟨rfl, hb2⟩)
      all_goals
        go_wp2
        go_roundw
        case rel => exact ⟨k + 1, by omega, by go_num, by first | exact hB.drew.trans (hb2.mono hs) | exact hB.trans (hb2.mono hs)⟩
        case measure => simp [intOf]; omega
    · go_wp2
      go_ret
      exact ⟨rfl, hB⟩

set_option maxHeartbeats 1600000 in
set_option maxRecDepth 100000 in
theorem mark_pushes2 {base : Nat} {v : Value} {xs : List (List (Int × Int))} {bs : List Nat} (k0 : Nat) (w : World) (hn : Bd2 xs) (hk0 : k0 + szL lenP xs ≤ 8388608) (ha : Push2E base w v xs bs) :
    Calls Try.prog 65 #[v, .int .i64 (k0 : Int)] w (MarkPost (Push2E base) v (mkP2 k0 xs) bs (k0 + szL lenP xs) w) := by
  obtain ⟨A, ca, rfl⟩ := ha.slice
  obtain ⟨hn1, hn2⟩ := hn
  obtain ⟨n, hn'⟩ : ∃ n, n = xs.length := ⟨_, rfl⟩
  obtain ⟨t, ht⟩ : ∃ t, t = k0 + szL lenP xs := ⟨_, rfl⟩
  have Hn := Lib.hid hn'
  have Ht := Lib.hid ht
  have Hn2 := Lib.hid hn2
  rw [← hn'] at ha hn1 ⊢
  rw [← ht] at hk0 ⊢
  have hq0 : k0 ≤ t := by rw [ht]; omega
  have hle : Hid (∀ j, k0 + szL lenP (xs.take j) ≤ t) := by intro j; have := szL_take_le (sz := lenP) xs j; rw [ht]; omega
  clear hn' hn2 ht
  go_enter Try.func65, Try.ntmps65
  go_wp2
  go_loopw [1, 5] (fun kk i wr => ∃ j q : Nat, j ≤ n ∧ i = .int .i64 j ∧ kk = .int .i64 (q : Int) ∧ Hid (q = k0 + szL lenP (xs.take j)) ∧ Push2E base wr (.slice A n ca) (half mkP lenP k0 xs j) bs ∧ Turned bs w wr) (fun _ i _ => n - (intOf i).toNat)
  case atStart => exact ⟨0, k0, Nat.zero_le _, rfl, rfl, by show _ = _; simp [szL], by rw [half_zero]; exact ha, Turned.refl _ _⟩
  case round =>
    obtain ⟨j, q, hj, rfl, rfl, hq, hE, hT⟩ := hrel
    have hqt : q ≤ t := by rw [hq.out]; exact hle.out j
    by_cases hlt : j < n
    · have hjx : j < xs.length := by rw [← Hn.out]; exact hlt
      obtain ⟨x, hx⟩ : ∃ x, xs[j]? = some x := ⟨_, List.getElem?_eq_getElem hjx⟩
      obtain ⟨g, c, u, cs, hv, hc, hu, hg, hturn⟩ := hE.at_ (push_ok _) (half_at hx)
      simp only [Value.slice.injEq] at hv
      obtain ⟨rfl, h9, rfl⟩ := hv
      clear h9
      have hq2 : Hid (q + lenP x = k0 + szL lenP (xs.take (j + 1))) := by show _ = _; rw [szL_take_succ hx, hq.out]; omega
      have hq3 : q + lenP x ≤ t := by rw [hq2.out]; exact hle.out (j + 1)
      have hm := mark_pushes q wr (Hn2.out x (List.mem_of_getElem? hx)) (by first | omega | (show q + _ ≤ _; omega)) hu
      have hset := half_set (mk := mkP) (sz := lenP) (k := k0) hx
      rw [← hq.out] at hset
      have Hset := Lib.hid hset
      have Hm := Lib.hid hm
      have Hturn := Lib.hid hturn
      clear hset hm hturn hx hjx hu
      go_wp2_with (go_at_call 105; refine Hm.out.mono ?_; rintro e w2 ⟨rfl, hu2, ht2⟩)
      obtain ⟨hE2, hT2⟩ := Hturn.out w2 _ ht2 hu2
      rw [Hset.out] at hE2
      go_roundw
      case rel => exact ⟨j + 1, q + lenP x, by omega, by go_num, by first | rfl | go_num, hq2, hE2, hT.trans hT2⟩
      case measure => simp [intOf]; omega
    · have e : j = n := by omega
      subst e
      have hqe : q = t := by rw [hq.out, Ht.out, Hn.out, List.take_length]
      subst hqe
      clear hlt hq hqt hq0
      go_wp2
      go_ret
      rw [Hn.out, half_all, ← Hn.out] at hE
      exact ⟨rfl, hE, hT⟩

set_option maxHeartbeats 1600000 in
set_option maxRecDepth 100000 in
theorem held_pushes2 {base : Nat} {v : Value} {xs : List (List (Int × Int))} {bs : List Nat} (k0 : Nat) (w : World) (hn : Bd2 xs) (hk0 : k0 + szL lenP xs ≤ 8388608) (ha : Push2E base w v (mkP2 k0 xs) bs) :
    Calls Try.prog 106 #[v, .int .i64 (k0 : Int)] w (SeenPost (.int .i64 ((k0 + szL lenP xs : Nat) : Int)) w) := by
  obtain ⟨A, ca, rfl⟩ := ha.slice
  rw [mkL_len] at ha ⊢
  obtain ⟨hn1, hn2⟩ := hn
  obtain ⟨n, hn'⟩ : ∃ n, n = xs.length := ⟨_, rfl⟩
  obtain ⟨t, ht⟩ : ∃ t, t = k0 + szL lenP xs := ⟨_, rfl⟩
  have Hn := Lib.hid hn'
  have Ht := Lib.hid ht
  have Hn2 := Lib.hid hn2
  rw [← hn'] at ha hn1 ⊢
  rw [← ht] at hk0 ⊢
  have hq0 : k0 ≤ t := by rw [ht]; omega
  have hle : Hid (∀ j, k0 + szL lenP (xs.take j) ≤ t) := by intro j; have := szL_take_le (sz := lenP) xs j; rw [ht]; omega
  clear hn' hn2 ht
  go_enter Try.func106, Try.ntmps106
  go_wp2
  go_loopw [1, 5] (fun kk i wr => ∃ j q : Nat, j ≤ n ∧ i = .int .i64 j ∧ kk = .int .i64 (q : Int) ∧ Hid (q = k0 + szL lenP (xs.take j)) ∧ Below w.heap.size w wr) (fun _ i _ => n - (intOf i).toNat)
  case atStart => exact ⟨0, k0, Nat.zero_le _, rfl, rfl, by show _ = _; simp [szL], Below.refl _ _⟩
  case round =>
    obtain ⟨j, q, hj, rfl, rfl, hq, hB⟩ := hrel
    have hqt : q ≤ t := by rw [hq.out]; exact hle.out j
    by_cases hlt : j < n
    · have hjx : j < xs.length := by rw [← Hn.out]; exact hlt
      obtain ⟨x, hx⟩ : ∃ x, xs[j]? = some x := ⟨_, List.getElem?_eq_getElem hjx⟩
      have hmk := mkL_at (mk := mkP) (sz := lenP) (k := k0) hx
      rw [← hq.out] at hmk
      obtain ⟨g, c, u, cs, hv, hc, hu, hg, _⟩ := ha.at_ (push_ok _) hmk
      simp only [Value.slice.injEq] at hv
      obtain ⟨rfl, h9, rfl⟩ := hv
      clear h9
      have hc1 := (hB.cell (p := ⟨g, j, none⟩) hg).trans hc
      have hs := hB.size
      have hq2 : Hid (q + lenP x = k0 + szL lenP (xs.take (j + 1))) := by show _ = _; rw [szL_take_succ hx, hq.out]; omega
      have hq3 : q + lenP x ≤ t := by rw [hq2.out]; exact hle.out (j + 1)
      have hm := held_pushes q wr (Hn2.out x (List.mem_of_getElem? hx)) (by first | omega | (show q + _ ≤ _; omega)) ((push_ok _).later hu hB)
      have Hm := Lib.hid hm
      clear hmk hm hx hjx hu hc
      go_wp2_with (go_at_call 144; refine Hm.out.mono ?_; rintro e w2 ⟨rfl, hb2⟩)
      go_roundw
      case rel => exact ⟨j + 1, q + lenP x, by omega, by go_num, by first | rfl | go_num, hq2, hB.trans (hb2.mono hs)⟩
      case measure => simp [intOf]; omega
    · have e : j = n := by omega
      subst e
      have hqe : q = t := by rw [hq.out, Ht.out, Hn.out, List.take_length]
      subst hqe
      clear hlt hq hqt hq0
      go_wp2
      go_ret
      exact ⟨rfl, hB⟩

set_option maxHeartbeats 1600000 in
set_option maxRecDepth 100000 in
theorem eq_ints3 {base base' : Nat} {v v' : Value} {xs : List (List (List Int))} {bs bs' : List Nat} (w : World) (hn : Bd3 xs) (ha : Ints3E base w v xs bs) (hb : Ints3E base' w v' xs bs') :
    Calls Try.prog 44 #[v, v'] w (SeenPost (.bool true) w) := by
  obtain ⟨A, ca, rfl⟩ := ha.slice
  obtain ⟨B, cb, rfl⟩ := hb.slice
  obtain ⟨hn1, hn2⟩ := hn
  obtain ⟨n, hn'⟩ : ∃ n, n = xs.length := ⟨_, rfl⟩
  have Hn := Lib.hid hn'
  have Hn2 := Lib.hid hn2
  rw [← hn'] at ha hb hn1 ⊢
  clear hn' hn2
  go_enter Try.func44, Try.ntmps44
  go_wp2
  go_loopw [5] (fun i wr => ∃ k : Nat, k ≤ n ∧ i = .int .i64 k ∧ Below w.heap.size w wr) (fun i _ => n - (intOf i).toNat)
  case atStart => exact ⟨0, Nat.zero_le _, rfl, Below.refl _ _⟩
  case round =>
    obtain ⟨k, hk, rfl, hB⟩ := hrel
    by_cases hlt : k < n
    · have hkx : k < xs.length := by rw [← Hn.out]; exact hlt
      obtain ⟨x, hx⟩ : ∃ x, xs[k]? = some x := ⟨_, List.getElem?_eq_getElem hkx⟩
      obtain ⟨g, c, u, cs, hv, hc, hE, hg, _⟩ := ha.at_ (ints2_ok _) hx
      obtain ⟨g', c', u', cs', hv', hc', hE', hg', _⟩ := hb.at_ (ints2_ok _) hx
      simp only [Value.slice.injEq] at hv hv'
      obtain ⟨rfl, h9, rfl⟩ := hv
      clear h9
      obtain ⟨rfl, h9, rfl⟩ := hv'
      clear h9
      have hc1 := (hB.cell (p := ⟨g, k, none⟩) hg).trans hc
      have hc2 := (hB.cell (p := ⟨g', k, none⟩) hg').trans hc'
      have hs := hB.size
      have hq := fun (W : World) (hw : Below w.heap.size w W) => eq_ints2 W (Hn2.out x (List.mem_of_getElem? hx)) ((ints2_ok _).later hE hw) ((ints2_ok _).later hE' hw)
      have Hq := Lib.hid hq
      have hmx : Try.prog.follows .mixedOrders = true := by kernel_rfl
      clear hkx hx hc hc' hq hE hE'
      go_wp2
      go_region_with (go_at_call 63; refine (Hq.out _ (by first | exact hB.drew | exact hB)).mono ?_; rintro e w2 ⟨rfl, hb2⟩)
      all_goals
        go_wp2
        go_roundw
        case rel => exact ⟨k + 1, by omega, by go_num, by first | exact hB.drew.trans (hb2.mono hs) | exact hB.trans (hb2.mono hs)⟩
        case measure => simp [intOf]; omega
    · go_wp2
      go_ret
      exact ⟨rfl, hB⟩

set_option maxHeartbeats 1600000 in
set_option maxRecDepth 100000 in
theorem mark_ints3 {base : Nat} {v : Value} {xs : List (List (List Int))} {bs : List Nat} (k0 : Nat) (w : World) (hn : Bd3 xs) (hk0 : k0 + szL (szL lenI) xs ≤ 8388608) (ha : Ints3E base w v xs bs) :
    Calls Try.prog 66 #[v, .int .i64 (k0 : Int)] w (MarkPost (Ints3E base) v (mkI3 k0 xs) bs (k0 + szL (szL lenI) xs) w) := by
  obtain ⟨A, ca, rfl⟩ := ha.slice
  obtain ⟨hn1, hn2⟩ := hn
  obtain ⟨n, hn'⟩ : ∃ n, n = xs.length := ⟨_, rfl⟩
  obtain ⟨t, ht⟩ : ∃ t, t = k0 + szL (szL lenI) xs := ⟨_, rfl⟩
  have Hn := Lib.hid hn'
  have Ht := Lib.hid ht
  have Hn2 := Lib.hid hn2
  rw [← hn'] at ha hn1 ⊢
  rw [← ht] at hk0 ⊢
  have hq0 : k0 ≤ t := by rw [ht]; omega
  have hle : Hid (∀ j, k0 + szL (szL lenI) (xs.take j) ≤ t) := by intro j; have := szL_take_le (sz := (szL lenI)) xs j; rw [ht]; omega
  clear hn' hn2 ht
  go_enter Try.func66, Try.ntmps66
  go_wp2
  go_loopw [1, 5] (fun kk i wr => ∃ j q : Nat, j ≤ n ∧ i = .int .i64 j ∧ kk = .int .i64 (q : Int) ∧ Hid (q = k0 + szL (szL lenI) (xs.take j)) ∧ Ints3E base wr (.slice A n ca) (half mkI2 (szL lenI) k0 xs j) bs ∧ Turned bs w wr) (fun _ i _ => n - (intOf i).toNat)
  case atStart => exact ⟨0, k0, Nat.zero_le _, rfl, rfl, by show _ = _; simp [szL], by rw [half_zero]; exact ha, Turned.refl _ _⟩
  case round =>
    obtain ⟨j, q, hj, rfl, rfl, hq, hE, hT⟩ := hrel
    have hqt : q ≤ t := by rw [hq.out]; exact hle.out j
    by_cases hlt : j < n
    · have hjx : j < xs.length := by rw [← Hn.out]; exact hlt
      obtain ⟨x, hx⟩ : ∃ x, xs[j]? = some x := ⟨_, List.getElem?_eq_getElem hjx⟩
      obtain ⟨g, c, u, cs, hv, hc, hu, hg, hturn⟩ := hE.at_ (ints2_ok _) (half_at hx)
      simp only [Value.slice.injEq] at hv
      obtain ⟨rfl, h9, rfl⟩ := hv
      clear h9
      have hq2 : Hid (q + (szL lenI) x = k0 + szL (szL lenI) (xs.take (j + 1))) := by show _ = _; rw [szL_take_succ hx, hq.out]; omega
      have hq3 : q + (szL lenI) x ≤ t := by rw [hq2.out]; exact hle.out (j + 1)
      have hm := mark_ints2 q wr (Hn2.out x (List.mem_of_getElem? hx)) (by first | omega | (show q + _ ≤ _; omega)) hu
      have hset := half_set (mk := mkI2) (sz := (szL lenI)) (k := k0) hx
      rw [← hq.out] at hset
      have Hset := Lib.hid hset
      have Hm := Lib.hid hm
      have Hturn := Lib.hid hturn
      clear hset hm hturn hx hjx hu
      go_wp2_with (go_at_call 67; refine Hm.out.mono ?_; rintro e w2 ⟨rfl, hu2, ht2⟩)
      obtain ⟨hE2, hT2⟩ := Hturn.out w2 _ ht2 hu2
      rw [Hset.out] at hE2
      go_roundw
      case rel => exact ⟨j + 1, q + (szL lenI) x, by omega, by go_num, by first | rfl | go_num, hq2, hE2, hT.trans hT2⟩
      case measure => simp [intOf]; omega
    · have e : j = n := by omega
      subst e
      have hqe : q = t := by rw [hq.out, Ht.out, Hn.out, List.take_length]
      subst hqe
      clear hlt hq hqt hq0
      go_wp2
      go_ret
      rw [Hn.out, half_all, ← Hn.out] at hE
      exact ⟨rfl, hE, hT⟩

set_option maxHeartbeats 1600000 in
set_option maxRecDepth 100000 in
theorem held_ints3 {base : Nat} {v : Value} {xs : List (List (List Int))} {bs : List Nat} (k0 : Nat) (w : World) (hn : Bd3 xs) (hk0 : k0 + szL (szL lenI) xs ≤ 8388608) (ha : Ints3E base w v (mkI3 k0 xs) bs) :
    Calls Try.prog 75 #[v, .int .i64 (k0 : Int)] w (SeenPost (.int .i64 ((k0 + szL (szL lenI) xs : Nat) : Int)) w) := by
  obtain ⟨A, ca, rfl⟩ := ha.slice
  rw [mkL_len] at ha ⊢
  obtain ⟨hn1, hn2⟩ := hn
  obtain ⟨n, hn'⟩ : ∃ n, n = xs.length := ⟨_, rfl⟩
  obtain ⟨t, ht⟩ : ∃ t, t = k0 + szL (szL lenI) xs := ⟨_, rfl⟩
  have Hn := Lib.hid hn'
  have Ht := Lib.hid ht
  have Hn2 := Lib.hid hn2
  rw [← hn'] at ha hn1 ⊢
  rw [← ht] at hk0 ⊢
  have hq0 : k0 ≤ t := by rw [ht]; omega
  have hle : Hid (∀ j, k0 + szL (szL lenI) (xs.take j) ≤ t) := by intro j; have := szL_take_le (sz := (szL lenI)) xs j; rw [ht]; omega
  clear hn' hn2 ht
  go_enter Try.func75, Try.ntmps75
  go_wp2
  go_loopw [1, 5] (fun kk i wr => ∃ j q : Nat, j ≤ n ∧ i = .int .i64 j ∧ kk = .int .i64 (q : Int) ∧ Hid (q = k0 + szL (szL lenI) (xs.take j)) ∧ Below w.heap.size w wr) (fun _ i _ => n - (intOf i).toNat)
  case atStart => exact ⟨0, k0, Nat.zero_le _, rfl, rfl, by show _ = _; simp [szL], Below.refl _ _⟩
  case round =>
    obtain ⟨j, q, hj, rfl, rfl, hq, hB⟩ := hrel
    have hqt : q ≤ t := by rw [hq.out]; exact hle.out j
    by_cases hlt : j < n
    · have hjx : j < xs.length := by rw [← Hn.out]; exact hlt
      obtain ⟨x, hx⟩ : ∃ x, xs[j]? = some x := ⟨_, List.getElem?_eq_getElem hjx⟩
      have hmk := mkL_at (mk := mkI2) (sz := (szL lenI)) (k := k0) hx
      rw [← hq.out] at hmk
      obtain ⟨g, c, u, cs, hv, hc, hu, hg, _⟩ := ha.at_ (ints2_ok _) hmk
      simp only [Value.slice.injEq] at hv
      obtain ⟨rfl, h9, rfl⟩ := hv
      clear h9
      have hc1 := (hB.cell (p := ⟨g, j, none⟩) hg).trans hc
      have hs := hB.size
      have hq2 : Hid (q + (szL lenI) x = k0 + szL (szL lenI) (xs.take (j + 1))) := by show _ = _; rw [szL_take_succ hx, hq.out]; omega
      have hq3 : q + (szL lenI) x ≤ t := by rw [hq2.out]; exact hle.out (j + 1)
      have hm := held_ints2 q wr (Hn2.out x (List.mem_of_getElem? hx)) (by first | omega | (show q + _ ≤ _; omega)) ((ints2_ok _).later hu hB)
      have Hm := Lib.hid hm
      clear hmk hm hx hjx hu hc
      go_wp2_with (go_at_call 107; refine Hm.out.mono ?_; rintro e w2 ⟨rfl, hb2⟩)
      go_roundw
      case rel => exact ⟨j + 1, q + (szL lenI) x, by omega, by go_num, by first | rfl | go_num, hq2, hB.trans (hb2.mono hs)⟩
      case measure => simp [intOf]; omega
    · have e : j = n := by omega
      subst e
      have hqe : q = t := by rw [hq.out, Ht.out, Hn.out, List.take_length]
      subst hqe
      clear hlt hq hqt hq0
      go_wp2
      go_ret
      exact ⟨rfl, hB⟩
end Go.Proofs.Yticmekdfdilcpaa
