/- StacksOf of the program. -/
import Derived.Test.YthdjoligopmepabCloneI
import Derived.Test.YthdjoligopmepabPosts
import Derived.Test.YthdjoligopmepabTakes
namespace Go.Proofs.Ythdjoligopmepab
open Go.RowKit
set_option linter.unusedVariables false

theorem one_int (y : Int) : ∀ u ∈ [Value.int .i64 y], u.oneCell' = true := by intro u hu; rw [List.mem_singleton.1 hu]; rfl
/-- What a row holds is told by where it lies. -/
theorem row_uniq {w : World} {base base' : Nat} {e : TypeId} {size n : Nat} {v : Value} {xs ys : List Value} (h : w.ownsRow base e size v n xs) (h' : w.ownsRow base' e size v n ys) : xs = ys := by
  rcases h.2 with ⟨rfl, h0⟩ | ⟨g, cap, cur, rfl, _, hg, _, _, _, hx⟩
  · have h1 := h.1
    have h2 := h'.1
    rw [h0, Nat.zero_mul] at h1 h2
    rw [List.eq_nil_of_length_eq_zero h1, List.eq_nil_of_length_eq_zero h2]
  · rcases h'.2 with ⟨hv, _⟩ | ⟨g', cap', cur', hv, _, hg', _, _, _, hx'⟩
    · cases hv
    · simp only [Value.slice.injEq, Option.some.injEq, Addr.mk.injEq, and_true, true_and] at hv
      obtain ⟨rfl, _⟩ := hv
      rw [hg] at hg'
      injection hg' with hg'
      injection hg' with hc
      rw [← hx, ← hx', hc]
theorem ManyE.off_bx {α : Type} {base B : Nat} {e f t : TypeId} {size : Nat} {enc : α → List Value} {w : World} {v : Value} {xs : List (List α)} {bs : List Nat} {cs : Array Value}
    (h : ManyE base e (RowE base f size enc) w v xs bs) (hb : Bx w B t cs) (hne : e ≠ t) (hnf : f ≠ t) : ∀ b ∈ bs, b ≠ B := by
  obtain ⟨vs, bss, hr, hl, hx, rfl, hn⟩ := h
  intro b hb'
  rcases List.mem_append.1 hb' with hm | hm
  · have hrow : RowE base e 1 (fun u : Value => [u]) w v vs v.ownBlock.toList := by
      refine ⟨?_, rfl⟩
      have hvl : vs.length = xs.length := by have := hr.1; simpa using this
      have e1 : (vs.flatMap fun u : Value => [u]) = vs := by
        clear hr hl hx hn hvl hb' hm
        induction vs with
        | nil => rfl
        | cons u us ih => rw [List.flatMap_cons, ih]; rfl
      rw [e1, hvl]
      exact hr
    exact RowE.off_bx hrow hb hne b hm
  · obtain ⟨c, hc, hbc⟩ := List.mem_flatten.1 hm
    obtain ⟨j, hj, rfl⟩ := List.mem_iff_getElem.1 hc
    have hvl : vs.length = xs.length := by have := hr.1; simpa using this
    exact RowE.off_bx (hx j (xs[j]'(by omega)) (vs[j]'(by omega)) _ (List.getElem?_eq_getElem (by omega)) (List.getElem?_eq_getElem (by omega)) (List.getElem?_eq_getElem hj)) hb hnf b hbc

/-- The stacks behind the beginnings of a word. -/
def stkM (c : Ck) (p : Int × List Int) (sy : List Int) (j : Nat) : List (List Int) := (List.range (j + 1)).map fun i => (goM c p (sy.take i)).2
theorem stkM_succ (c : Ck) (p : Int × List Int) (sy : List Int) (j : Nat) : stkM c p sy (j + 1) = stkM c p sy j ++ [(goM c p (sy.take (j + 1))).2] := by
  rw [stkM, List.range_succ, List.map_append]; rfl
theorem stkM_len (c : Ck) (p : Int × List Int) (sy : List Int) (j : Nat) : (stkM c p sy j).length = j + 1 := by simp [stkM]
theorem stkM_zero (c : Ck) (p : Int × List Int) (sy : List Int) : stkM c p sy 0 = [p.2] := by simp [stkM, goM, List.range_succ]
/-- One list of numbers in a new block. -/
theorem many_one {base : Nat} {w : World} {v : Value} {xs : List Int} {bs : List Nat} (h : IntsE base w v xs bs) (hb : base ≤ w.heap.size) : Ints2E base (w.alloc (.cells #[v] 28)) (.slice (some ⟨w.heap.size, 0, none⟩) 1 1) [xs] (w.heap.size :: bs) := by
  have h2 := many_lit (E := IntsE base) (base := base) (g := w.heap.size) (e := 28) (xs := [xs]) (vs := #[v]) (bss := [bs]) (W := w.alloc (.cells #[v] 28)) 1 (Bx.new w _ _) hb rfl
    ⟨(ints_ok _).later h ((Below.refl _ _).alloc (Nat.le_refl _) _), trivial⟩ (by
      rw [List.flatten_singleton, List.nodup_cons]
      exact ⟨fun hm => by have := ((ints_ok _).lt h _ hm).2; omega, (ints_ok _).nodup h⟩) (by unfold maxLen; omega)
  rwa [List.flatten_singleton] at h2
/-- One list more, behind an append. -/
theorem many_more {base g cap n : Nat} {w w1 : World} {A : Option Addr} {ca : Nat} {v : Value} {xss : List (List Int)} {xs : List Int} {bs cs : List Nat} {vs : List Value} (h : Ints2E base w (.slice A n ca) xss bs) (hn : xss.length = n) (hrow : w.ownsRow base 28 1 (.slice A n ca) n vs)
    (hv : IntsE base w v xs cs) (hd : ∀ b ∈ bs, b ∉ cs) (hown : w1.ownsRow base 28 1 (.slice (some ⟨g, 0, none⟩) (n + 1) cap) (n + 1) (vs ++ [v])) (hg : (w.alloc (.cells #[v] 28)).grownBy w1 (Value.slice A n ca).ownBlock)
    (hat : (Value.slice A n ca).ownBlock = some g ∨ g = w.heap.size + 1) : ∃ bs', Ints2E base w1 (.slice (some ⟨g, 0, none⟩) (n + 1) cap) (xss ++ [xs]) bs' ∧ ∀ b ∈ bs', b ∈ bs ∨ b ∈ cs ∨ b = g := by
  have hgb : ∀ b, b < w.heap.size → some b ≠ (Value.slice A n ca).ownBlock → w1.heap[b]? = w.heap[b]? := fun b hb hne => (hg.block b (by rw [World.size_alloc]; omega) hne).trans (Below.heap_alloc w _ b hb)
  have hbl : ∀ k, (Value.slice A n ca).ownBlock = some k → k ∈ bs := fun k hk => by
    obtain ⟨_, bss, _, _, _, rfl, _⟩ := h
    rw [hk]
    simp
  obtain ⟨bs', h1, h2⟩ := h.snoc (w' := w1) (v' := .slice (some ⟨g, 0, none⟩) (n + 1) cap) (u := v) (x := xs) (cs := cs) (ints_ok base)
    (fun vs' hr => by rw [hn] at hr ⊢; rw [row_uniq hr hrow]; exact hown) hgb
    (by
      rcases hat with e | e
      · exact .inl (by rw [e]; rfl)
      · refine .inr ⟨g, rfl, fun hm => ?_, fun hm => ?_⟩
        · have := ((ints2_ok _).lt h g hm).2
          omega
        · have := ((ints_ok _).lt hv g hm).2
          omega)
    ((ints_ok _).kept hv fun b hb => hgb b ((ints_ok _).lt hv b hb).2 fun e => hd b (hbl b e.symm) hb) hd ((ints_ok _).nodup hv)
  refine ⟨bs', h1, fun b hb => ?_⟩
  rcases h2 b hb with h | h | h
  · exact .inl h
  · exact .inr (.inl h)
  · exact .inr (.inr (by simpa [Value.ownBlock] using h))

section
variable {base : Nat} {va vc vr vi : Value} {c : Ck} {bsC : List Nat} {w0 : World} {B : Nat}
/-- A run lies as it lay where its box and its stack do. -/
theorem RunB.kept {p : Int × List Int} {bs : List Nat} {W W' : World} (h : RunB w0 B c va vc vr vi p bs W) (h1 : W'.heap[B]? = W.heap[B]?) (h2 : ∀ b ∈ bs, W'.heap[b]? = W.heap[b]?) (h3 : Below w0.heap.size w0 W') : RunB w0 B c va vc vr vi p bs W' := by
  obtain ⟨vs, hb, hE, _, hBB⟩ := h
  exact ⟨vs, hb.same h1, (ints_ok _).kept hE h2, h3, hBB⟩
theorem RunB.later {p : Int × List Int} {bs : List Nat} {W W' : World} (h : RunB w0 B c va vc vr vi p bs W) (hb : Below W.heap.size W W') : RunB w0 B c va vc vr vi p bs W' := by
  obtain ⟨vs, hx, hE, hB, hBB⟩ := id h
  exact h.kept (hb.block B hx.lt) (fun b hm => hb.block b ((ints_ok _).lt hE b hm).2) (hB.trans (hb.mono hB.size))
theorem impl_presentStack {p : Int × List Int} {bs : List Nat} (W : World) (h : RunB w0 B c va vc vr vi p bs W) (hl : p.2.length ≤ 200) :
    Calls Try.prog 62 #[.pointer (some ⟨B, 0, none⟩)] W (NewPost IntsE p.2 W) := by
  obtain ⟨vs, hx, hE, hB, hBB⟩ := h
  have s7 : W.cell? ⟨B, 7, none⟩ = some vs := hx.cell 7 _ rfl
  have Q := Lib.hid (impl_clone W (show p.2.length ≤ 1048576 by omega) hE)
  clear hx hE hB
  go_enter Try.func62, Try.ntmps62
  go_wp2_with fail
  refine Q.out.mono ?_
  rintro e w1 ⟨v, bs1, rfl, h1, h2⟩
  go_wp2
  go_ret
  exact ⟨v, bs1, rfl, h1, h2⟩
end
end Go.Proofs.Ythdjoligopmepab
