/- Pairs of valid checkers: plain mathematics. -/
import Derived.Test.YticmekdfdilcpaaRunM
import Derived.Test.YticmekdfdilcpaaPair
namespace Go.Proofs.Yticmekdfdilcpaa
open Go.RowKit
set_option linter.unusedVariables false

theorem ok_call {c : Ck} (h : OkC c) : ∀ x ∈ c.call, x.length = 2 ∧ ∀ p ∈ x, (0 ≤ p.1 ∧ p.1 < c.accept.length) ∧ (0 ≤ p.2 ∧ p.2 < c.stack) := by
  intro x hx
  obtain ⟨i, hi, rfl⟩ := List.mem_iff_getElem.1 hx
  obtain ⟨a, b, hab, ha, hb⟩ := h.call i (by rw [← h.lc]; exact hi)
  rw [List.getElem?_eq_getElem hi] at hab
  rw [Option.some.inj hab]
  simp only [pB, Bool.and_eq_true] at ha hb
  refine ⟨rfl, fun p hp => ?_⟩
  rcases List.mem_cons.1 hp with rfl | hp
  · exact ⟨inB_yes ha.1, inB_yes ha.2⟩
  · rw [List.mem_singleton.1 hp]; exact ⟨inB_yes hb.1, inB_yes hb.2⟩
theorem listB_yes {xs : List Int} {len n : Int} (h : listB xs len n = true) : (xs.length : Int) = len ∧ ∀ x ∈ xs, 0 ≤ x ∧ x < n := by
  simp only [listB, Bool.and_eq_true, decide_eq_true_eq, allB, List.all_eq_true] at h
  exact ⟨h.1, fun x hx => inB_yes (h.2 x hx)⟩
theorem ok_ret {c : Ck} (h : OkC c) : ∀ x ∈ c.ret, x.length = 2 ∧ ∀ y ∈ x, (y.length : Int) = c.stack + 1 ∧ ∀ z ∈ y, 0 ≤ z ∧ z < (c.accept.length : Int) := by
  intro x hx
  obtain ⟨i, hi, rfl⟩ := List.mem_iff_getElem.1 hx
  obtain ⟨a, b, hab, ha, hb⟩ := h.ret i (by rw [← h.lr]; exact hi)
  rw [List.getElem?_eq_getElem hi] at hab
  rw [Option.some.inj hab]
  refine ⟨rfl, fun p hp => ?_⟩
  rcases List.mem_cons.1 hp with rfl | hp
  · exact listB_yes ha
  · rw [List.mem_singleton.1 hp]; exact listB_yes hb
theorem ok_inner {c : Ck} (h : OkC c) : ∀ x ∈ c.inner, x.length = 2 ∧ ∀ z ∈ x, 0 ≤ z ∧ z < (c.accept.length : Int) := by
  intro x hx
  obtain ⟨i, hi, rfl⟩ := List.mem_iff_getElem.1 hx
  obtain ⟨a, b, hab, ha, hb⟩ := h.inner i (by rw [← h.li]; exact hi)
  rw [List.getElem?_eq_getElem hi] at hab
  rw [Option.some.inj hab]
  refine ⟨rfl, fun p hp => ?_⟩
  rcases List.mem_cons.1 hp with rfl | hp
  · exact inB_yes ha
  · rw [List.mem_singleton.1 hp]; exact inB_yes hb
theorem sm_of {n : Nat} {x : Int} (hn : n ≤ 1000) (h : 0 ≤ x ∧ x < (n : Int)) : Sm x := ⟨h.1, by omega⟩
theorem ok_smP {c : Ck} (h : OkC c) {x : List (Int × Int)} (hx : x ∈ c.call) : SmP x := fun p hp => by
  have h1 := (ok_call h x hx).2 p hp
  have h2 := h.n2
  have h3 := h.st2
  exact ⟨⟨h1.1.1, by omega⟩, ⟨h1.2.1, by omega⟩⟩
theorem ok_smR {c : Ck} (h : OkC c) {x : List (List Int)} (hx : x ∈ c.ret) : ∀ y ∈ x, (1 ≤ y.length ∧ y.length ≤ 1000) ∧ SmL y := fun y hy => by
  have h1 := (ok_ret h x hx).2 y hy
  have h2 := h.n2
  have h3 := h.st1
  have h4 := h.st2
  exact ⟨⟨by omega, by omega⟩, fun z hz => by have := h1.2 z hz; exact ⟨this.1, by omega⟩⟩
theorem ok_smI {c : Ck} (h : OkC c) {x : List Int} (hx : x ∈ c.inner) : SmL x := fun y hy => by
  have h1 := (ok_inner h x hx).2 y hy
  have h2 := h.n2
  exact ⟨h1.1, by omega⟩

theorem mad_lt {a b : Int} {n : Nat} {N : Int} (ha : 0 ≤ a ∧ a < N) (hb : 0 ≤ b ∧ b < (n : Int)) : 0 ≤ a * n + b ∧ a * n + b < N * n := by
  have h0 : (0 : Int) ≤ (n : Int) := by omega
  have h1 : 0 ≤ a * (n : Int) := Int.mul_nonneg ha.1 h0
  have h2 : (a + 1) * (n : Int) ≤ N * (n : Int) := Int.mul_le_mul_of_nonneg_right (by omega) h0
  rw [Int.add_mul, Int.one_mul] at h2
  omega
theorem mad_lt' {a b m N : Int} (hm : 0 ≤ m) (ha : 0 ≤ a ∧ a < N) (hb : 0 ≤ b ∧ b < m) : 0 ≤ a * m + b ∧ a * m + b < N * m := by
  obtain ⟨n, rfl⟩ := Int.eq_ofNat_of_zero_le hm
  exact mad_lt ha hb
theorem inB_of {x n : Int} (h : 0 ≤ x ∧ x < n) : inB x n = true := by simp [inB, h]
theorem lastI_mem {xs : List Int} (h : 1 ≤ xs.length) : xs.getLastD 0 ∈ xs := by
  rw [List.getLastD_eq_getLast?, List.getLast?_eq_getElem?, List.getElem?_eq_getElem (by omega)]
  exact List.getElem_mem _
theorem zip_mem {α β : Type} {f : α → α → β} {xs ys : List α} {z : β} (h : z ∈ List.zipWith f xs ys) : ∃ x ∈ xs, ∃ y ∈ ys, z = f x y := by
  obtain ⟨i, hi, rfl⟩ := List.mem_iff_getElem.1 h
  rw [List.length_zipWith] at hi
  exact ⟨xs[i]'(by omega), List.getElem_mem _, ys[i]'(by omega), List.getElem_mem _, by rw [List.getElem_zipWith]⟩

theorem okM_pair (f : Bool → Bool → Bool) {c d : Ck} (hc : OkC c) (hd : OkC d) : okM (pairC f c d) = (decide (c.accept.length * d.accept.length ≤ 40) && decide (c.stack * d.stack ≤ 80)) := by
  have hla : (pairC f c d).accept.length = c.accept.length * d.accept.length := prodL_len _ _ _
  have hlc : (pairC f c d).call.length = c.accept.length * d.accept.length := by unfold pairC; dsimp only; rw [prodL_len, hc.lc, hd.lc]
  have hlr : (pairC f c d).ret.length = c.accept.length * d.accept.length := by unfold pairC; dsimp only; rw [prodL_len, hc.lr, hd.lr]
  have hli : (pairC f c d).inner.length = c.accept.length * d.accept.length := by unfold pairC; dsimp only; rw [prodL_len, hc.li, hd.li]
  have hpos : 1 ≤ c.accept.length * d.accept.length := Nat.mul_pos hc.n1 hd.n1
  have hst1 : 1 ≤ c.stack * d.stack := by
    have h1 := hc.st1
    have h2 := hd.st1
    obtain ⟨x, hx⟩ := Int.eq_ofNat_of_zero_le (show 0 ≤ c.stack by omega)
    obtain ⟨y, hy⟩ := Int.eq_ofNat_of_zero_le (show 0 ≤ d.stack by omega)
    have hx1 : 0 < x := by omega
    have hy1 : 0 < y := by omega
    have h4 : 0 < x * y := Nat.mul_pos hx1 hy1
    have h3 : ((x * y : Nat) : Int) = (x : Int) * (y : Int) := by simp
    rw [hx, hy, ← h3]
    omega
  have hstart := mad_lt hc.start hd.start
  have hst : inB (pairC f c d).start (pairC f c d).accept.length = true := by
    rw [hla]
    refine inB_of ?_
    show 0 ≤ pairS _ _ _ ∧ pairS _ _ _ < _
    unfold pairS
    rw [Int.natCast_mul]
    exact hstart
  have hall : allM (pairC f c d).accept.length (pairC f c d).stack (pairC f c d).call (pairC f c d).ret (pairC f c d).inner (pairC f c d).accept.length = true := by
    unfold allM
    rw [List.all_eq_true]
    intro s hs
    rw [List.mem_range, hla] at hs
    have e1 : (pairC f c d).call[s]? = some ((pairC f c d).call[s]'(by omega)) := List.getElem?_eq_getElem (by omega)
    have e2 : (pairC f c d).ret[s]? = some ((pairC f c d).ret[s]'(by omega)) := List.getElem?_eq_getElem (by omega)
    have e3 : (pairC f c d).inner[s]? = some ((pairC f c d).inner[s]'(by omega)) := List.getElem?_eq_getElem (by omega)
    obtain ⟨a1, ha1, b1, hb1, f1⟩ := prodL_mem (List.getElem_mem (show s < (pairC f c d).call.length by omega))
    obtain ⟨a2, ha2, b2, hb2, f2⟩ := prodL_mem (List.getElem_mem (show s < (pairC f c d).ret.length by omega))
    obtain ⟨a3, ha3, b3, hb3, f3⟩ := prodL_mem (List.getElem_mem (show s < (pairC f c d).inner.length by omega))
    rw [e1, e2, e3, hla]
    simp only [Option.getD_some]
    rw [f1, f2, f3]
    have c1 := ok_call hc a1 ha1
    have d1 := ok_call hd b1 hb1
    have c2 := ok_ret hc a2 ha2
    have d2 := ok_ret hd b2 hb2
    have c3 := ok_inner hc a3 ha3
    have d3 := ok_inner hd b3 hb3
    have hs1 := hc.st1
    have hs2 := hd.st1
    have hN : ((c.accept.length * d.accept.length : Nat) : Int) = (c.accept.length : Int) * (d.accept.length : Int) := by simp
    simp only [mvB, Bool.and_eq_true, decide_eq_true_eq, List.length_zipWith, c1.1, d1.1, c2.1, d2.1, c3.1, d3.1, Nat.min_self, true_and, List.all_eq_true, allB]
    refine ⟨fun p hp => ?_, fun r hr => ?_, fun z hz => ?_⟩
    · obtain ⟨x, hx, y, hy, rfl⟩ := zip_mem hp
      have hx2 := c1.2 x hx
      have hy2 := d1.2 y hy
      simp only [pB, pairP, pairS, Bool.and_eq_true]
      refine ⟨inB_of ?_, inB_of ?_⟩
      · rw [hN]; exact mad_lt hx2.1 hy2.1
      · exact mad_lt' (by omega) hx2.2 hy2.2
    · obtain ⟨x, hx, y, hy, rfl⟩ := zip_mem hr
      have hx2 := c2.2 x hx
      have hy2 := d2.2 y hy
      have lx : x.dropLast.length = x.length - 1 := List.length_dropLast
      have ly : y.dropLast.length = y.length - 1 := List.length_dropLast
      simp only [listB, Bool.and_eq_true, decide_eq_true_eq, allB, List.all_eq_true]
      refine ⟨?_, fun z hz => ?_⟩
      · show ((pairR d.accept.length x y).length : Int) = c.stack * d.stack + 1
        unfold pairR
        rw [List.length_append, prodL_len, List.length_singleton, Int.natCast_add, Int.natCast_mul]
        have q1 : (x.dropLast.length : Int) = c.stack := by omega
        have q2 : (y.dropLast.length : Int) = d.stack := by omega
        rw [q1, q2]; rfl
      · unfold pairR at hz
        refine inB_of ?_
        rw [hN]
        rcases List.mem_append.1 hz with hz | hz
        · obtain ⟨p, hp, q, hq, rfl⟩ := prodL_mem hz
          exact mad_lt (hx2.2 p (List.dropLast_subset _ hp)) (hy2.2 q (List.dropLast_subset _ hq))
        · rw [List.mem_singleton.1 hz]
          exact mad_lt (hx2.2 _ (lastI_mem (by have := hx2.1; omega))) (hy2.2 _ (lastI_mem (by have := hy2.1; omega)))
    · obtain ⟨x, hx, y, hy, rfl⟩ := zip_mem hz
      refine inB_of ?_
      rw [hN]
      exact mad_lt (c3.2 x hx) (d3.2 y hy)
  unfold okM
  rw [hall, Bool.and_true]
  unfold hdM
  rw [hst, hla, hlc, hlr, hli]
  simp only [decide_true, Bool.and_true]
  have hs : (pairC f c d).stack = c.stack * d.stack := rfl
  rw [hs]
  unfold rngB
  congr 1
  · apply decide_eq_decide.2
    constructor
    · intro h; omega
    · intro h; omega
  · apply decide_eq_decide.2
    constructor
    · intro h; exact h.2
    · intro h; exact ⟨hst1, h⟩
end Go.Proofs.Yticmekdfdilcpaa
