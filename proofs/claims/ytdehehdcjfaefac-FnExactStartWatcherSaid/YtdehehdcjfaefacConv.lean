/- toChecker, and the laws' functions that count what came in. -/
import Derived.Test.YtdehehdcjfaefacOpen
import Derived.Test.YtdehehdcjfaefacBox
namespace Go.Proofs.Ytdehehdcjfaefac
open Go.RowKit

/-- What is left, or that there is too much. -/
def dec (left n : Nat) : Int := if n ≤ left then ((left - n : Nat) : Int) else -1
theorem dec_yes {left n : Nat} (h : n ≤ left) : dec left n = ((left - n : Nat) : Int) := by rw [dec, if_pos h]
theorem dec_no {left n : Nat} (h : ¬ n ≤ left) : dec left n = -1 := by rw [dec, if_neg h]
def lenA {α : Type} (x : List α) : Nat := x.length
def cnt2 {α : Type} (xs : List (List α)) : Nat := xs.length + szL lenA xs
def cnt3 {α : Type} (xs : List (List (List α))) : Nat := xs.length + szL cnt2 xs


theorem sz_ints {v : Value} {xs : List Int} (left : Nat) (w : World) (hl : left ≤ 1048576) (ha : IntsR w v xs) : Calls Try.prog 47 #[v, .int .i64 (left : Int)] w fun e w' => e = .returned (.int .i64 (dec left (lenA xs))) ∧ w = w' := by
  obtain ⟨A, ca, rfl, hm, _⟩ := ha
  unfold lenA
  unfold maxLen at hm
  generalize xs.length = n at hm ⊢
  by_cases h : n ≤ left
  · rw [dec_yes h]
    go_enter Try.func47, Try.ntmps47
    go_wp2
    go_ret
    exact ⟨by go_num, rfl⟩
  · rw [dec_no h]
    have h' : left < n := by omega
    clear h
    go_enter Try.func47, Try.ntmps47
    go_wp2
    go_ret
    exact ⟨rfl, rfl⟩

set_option maxHeartbeats 1600000 in
set_option maxRecDepth 100000 in
theorem sz_ints2 {v : Value} {xs : List (List Int)} (left : Nat) (w : World) (hl : left ≤ 1048576) (ha : Ints2R w v xs) : Calls Try.prog 48 #[v, .int .i64 (left : Int)] w fun e w' => e = .returned (.int .i64 (dec left (cnt2 xs))) ∧ w = w' := by
  obtain ⟨A, ca, rfl, hm, hA⟩ := ha
  unfold maxLen at hm
  obtain ⟨n, hn'⟩ : ∃ n, n = xs.length := ⟨_, rfl⟩
  obtain ⟨t, ht⟩ : ∃ t, t = cnt2 xs := ⟨_, rfl⟩
  have htn : t = n + szL lenA xs := by rw [ht, hn']; rfl
  have Hn := Lib.hid hn'
  have HA := Lib.hid hA
  have Ht := Lib.hid htn
  rw [← hn'] at hm ⊢
  rw [← ht]
  clear hn' hA ht htn
  by_cases h0 : n ≤ left
  · obtain ⟨q0, hq0⟩ : ∃ q0, q0 = left - n := ⟨_, rfl⟩
    have hq1 : q0 + n = left := by omega
    have hq2 : ((left : Int) - (n : Int)) = (q0 : Int) := by omega
    have hq3 : q0 ≤ 1048576 := by omega
    clear hq0
    have Hq1 := Lib.hid hq1
    have Hq2 := Lib.hid hq2
    clear hq1 hq2
    go_enter Try.func48, Try.ntmps48
    go_wp2
    go_loop [1, 5] (fun l i => ∃ j q : Nat, j ≤ n ∧ i = .int .i64 j ∧ l = .int .i64 (q : Int) ∧ q ≤ 1048576 ∧ Hid (q + n + szL lenA (xs.take j) = left)) (fun _ i => n - (intOf i).toNat)
    case atStart => exact ⟨0, q0, Nat.zero_le _, rfl, by rw [Hq2.out], hq3, by show _ = _; rw [← Hq1.out]; simp [szL]⟩
    case round =>
      obtain ⟨j, q, hj, rfl, rfl, hq, hsum⟩ := hrel
      by_cases hlt : j < n
      · have hjx : j < xs.length := by rw [← Hn.out]; exact hlt
        obtain ⟨x, hx⟩ : ∃ x, xs[j]? = some x := ⟨_, List.getElem?_eq_getElem hjx⟩
        obtain ⟨A', u, rfl, _, hc, hu⟩ := HA.out j x hx
        have hss := szL_take_succ (sz := lenA) hx
        have hle := szL_take_le (sz := lenA) xs (j + 1)
        obtain ⟨y, hy⟩ : ∃ y, y = lenA x := ⟨_, rfl⟩
        have hsub := sz_ints q w hq hu
        rw [show lenA x = y from hy.symm] at hsub
        rw [← hy] at hss
        have Hss := Lib.hid hss
        have Hle := Lib.hid hle
        clear hss hle hjx hx hy hu
        by_cases hyq : y ≤ q
        · rw [dec_yes hyq] at hsub
          have Hsub := Lib.hid hsub
          obtain ⟨q', hq'⟩ : ∃ q', q' = q - y := ⟨_, rfl⟩
          have hq2 : q' + y = q := by omega
          rw [← hq'] at Hsub
          clear hsub hq'
          go_wp2_with (go_at_call 47; refine Hsub.out.mono ?_; rintro e w' ⟨rfl, rfl⟩)
          go_round
          case rel => exact ⟨j + 1, q', by omega, by go_num, rfl, by omega, by show _ = _; have := hsum.out; have := Hss.out; omega⟩
          case measure => simp [intOf]; omega
        · rw [dec_no hyq] at hsub
          have Hsub := Lib.hid hsub
          have hno : ¬ t ≤ left := by
            have := hsum.out
            have := Hss.out
            have := Hle.out
            have := Ht.out
            omega
          have hd := Lib.hid (dec_no hno)
          clear hsub hyq hno
          go_wp2_with (go_at_call 47; refine Hsub.out.mono ?_; rintro e w' ⟨rfl, rfl⟩)
          go_ret
          exact ⟨by rw [hd.out]; rfl, rfl⟩
      · have e : j = n := by omega
        subst e
        have hall : q + t = left := by
          have h1 := hsum.out
          rw [Hn.out, List.take_length] at h1
          have := Ht.out
          have := Hn.out
          omega
        have hv : ((left - t : Nat) : Int) = (q : Int) := by omega
        have hd := Lib.hid ((dec_yes (left := left) (n := t) (by omega)).trans hv)
        clear hall hv hsum
        go_wp2
        go_ret
        exact ⟨by rw [hd.out]; rfl, rfl⟩
  · have h' : left < n := by omega
    have hno : ¬ t ≤ left := by have := Ht.out; omega
    rw [dec_no hno]
    clear h0 hno
    go_enter Try.func48, Try.ntmps48
    go_wp2
    go_ret
    exact ⟨rfl, rfl⟩

def cntC (c : Ck) : Nat := lenA c.accept + (cnt2 c.call + (cnt3 c.ret + cnt2 c.inner))
theorem szL_mem {α : Type} {sz : α → Nat} : ∀ (xs : List α) (x : α), x ∈ xs → sz x ≤ szL sz xs := by
  intro xs
  induction xs with
  | nil => intro x h; cases h
  | cons y xs ih =>
    intro x h
    simp only [szL, List.map_cons, List.sum_cons] at ih ⊢
    rcases List.mem_cons.1 h with rfl | h
    · omega
    · have := ih x h; omega
theorem szL_lenP (xs : List (List (Int × Int))) : szL lenP xs = 2 * szL lenA xs := by
  induction xs with
  | nil => rfl
  | cons y xs ih =>
    simp only [szL, List.map_cons, List.sum_cons] at ih ⊢
    rw [ih, lenP, lenA]
    omega
theorem szL_le {α : Type} {f g : α → Nat} (h : ∀ x, f x ≤ g x) (xs : List α) : szL f xs ≤ szL g xs := by
  induction xs with
  | nil => exact Nat.le_refl _
  | cons y xs ih =>
    simp only [szL, List.map_cons, List.sum_cons] at ih ⊢
    have := h y
    omega
/-- What is not too much is within all bounds. -/
theorem bd_of_cnt {c : Ck} (h : cntC c ≤ 1048576) : BdC c := by
  have h' : c.accept.length + ((c.call.length + szL lenA c.call) + ((c.ret.length + szL cnt2 c.ret) + (c.inner.length + szL lenA c.inner))) ≤ 1048576 := h
  refine ⟨by unfold Bd1; omega, ⟨by omega, fun x hx => ?_⟩, ⟨by omega, fun x hx => ?_⟩, ⟨by omega, fun x hx => ?_⟩, ?_⟩
  · have m := szL_mem (sz := lenA) _ _ hx
    have e : lenA x = x.length := rfl
    unfold Bd1
    omega
  · have m := szL_mem (sz := cnt2) _ _ hx
    have e : cnt2 x = x.length + szL lenA x := rfl
    refine ⟨by omega, fun y hy => ?_⟩
    have m2 := szL_mem (sz := lenA) _ _ hy
    have e2 : lenA y = y.length := rfl
    unfold Bd1
    omega
  · have m := szL_mem (sz := lenA) _ _ hx
    have e : lenA x = x.length := rfl
    unfold Bd1
    omega
  · have h1 : szL (szL lenI) c.ret ≤ szL cnt2 c.ret := szL_le (fun x => show szL lenI x ≤ cnt2 x from Nat.le_add_left _ _) _
    have h2 : szL lenI c.inner = szL lenA c.inner := rfl
    have h3 := szL_lenP c.call
    unfold szC
    omega

end Go.Proofs.Ytdehehdcjfaefac
