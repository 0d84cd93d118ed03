/- Runs: where a symbol leads from a state with a stack (plain mathematics). -/
import Derived.Test.YticmekdfdilcpaaValid
namespace Go.Proofs.Yticmekdfdilcpaa
open Go.RowKit
set_option linter.unusedVariables false

/-- Where a call leads, and its mark; where a return leads with a mark; where an inner letter leads. -/
def callM (c : Ck) (s k : Int) : Int × Int := ((c.call[s.toNat]?.getD [])[k.toNat]?).getD (0, 0)
def retM (c : Ck) (s k x : Int) : Int := ((((c.ret[s.toNat]?.getD [])[k.toNat]?).getD [])[x.toNat]?).getD 0
def innM (c : Ck) (s k : Int) : Int := ((c.inner[s.toNat]?.getD [])[k.toNat]?).getD 0
/-- Where a symbol leads from a state with a stack. -/
def stepM (c : Ck) (p : Int × List Int) (k : Int) : Int × List Int :=
  if k ≤ 1 then ((callM c p.1 k).1, p.2 ++ [(callM c p.1 k).2])
  else if k ≤ 3 then
    match p.2.getLast? with
    | none => (retM c p.1 (k - 2) c.stack, [])
    | some x => (retM c p.1 (k - 2) x, p.2.dropLast)
  else (innM c p.1 (k - 4), p.2)
def goM (c : Ck) (p : Int × List Int) (ks : List Int) : Int × List Int := ks.foldl (stepM c) p
theorem goM_snoc (c : Ck) (p : Int × List Int) (ks : List Int) (k : Int) : goM c p (ks ++ [k]) = stepM c (goM c p ks) k := by simp [goM, List.foldl_append]

/-- A valid checker. -/
structure OkC (c : Ck) : Prop where
  n1 : 1 ≤ c.accept.length
  n2 : c.accept.length ≤ 40
  st1 : 1 ≤ c.stack
  st2 : c.stack ≤ 80
  start : 0 ≤ c.start ∧ c.start < c.accept.length
  lc : c.call.length = c.accept.length
  lr : c.ret.length = c.accept.length
  li : c.inner.length = c.accept.length
  call : ∀ s : Nat, s < c.accept.length → ∃ x y, c.call[s]? = some [x, y] ∧ pB c.accept.length c.stack x = true ∧ pB c.accept.length c.stack y = true
  ret : ∀ s : Nat, s < c.accept.length → ∃ x y, c.ret[s]? = some [x, y] ∧ listB x (c.stack + 1) c.accept.length = true ∧ listB y (c.stack + 1) c.accept.length = true
  inner : ∀ s : Nat, s < c.accept.length → ∃ x y, c.inner[s]? = some [x, y] ∧ inB x c.accept.length = true ∧ inB y c.accept.length = true

theorem two_of {α : Type} {xs : List α} (h : xs.length = 2) : ∃ x y, xs = [x, y] := by
  match xs, h with
  | [x, y], _ => exact ⟨x, y, rfl⟩
theorem okC_of {c : Ck} (h : okM c = true) : OkC c := by
  rw [okM, Bool.and_eq_true] at h
  obtain ⟨h1, h2⟩ := h
  obtain ⟨a1, a2, a3, a4, a5, a6, a7, a8⟩ := hdM_yes h1
  have each : ∀ s : Nat, s < c.accept.length → mvB c.accept.length c.stack (c.call[s]?.getD []) (c.ret[s]?.getD []) (c.inner[s]?.getD []) = true := fun s hs => by
    rw [allM, List.all_eq_true] at h2
    exact h2 s (List.mem_range.2 hs)
  have parts : ∀ s : Nat, s < c.accept.length → (∃ x y, c.call[s]? = some [x, y] ∧ pB c.accept.length c.stack x = true ∧ pB c.accept.length c.stack y = true) ∧
      (∃ x y, c.ret[s]? = some [x, y] ∧ listB x (c.stack + 1) c.accept.length = true ∧ listB y (c.stack + 1) c.accept.length = true) ∧
      (∃ x y, c.inner[s]? = some [x, y] ∧ inB x c.accept.length = true ∧ inB y c.accept.length = true) := fun s hs => by
    have h := each s hs
    rw [List.getElem?_eq_getElem (by omega), List.getElem?_eq_getElem (by omega), List.getElem?_eq_getElem (by omega)] at h ⊢
    simp only [mvB, Option.getD_some, Bool.and_eq_true, decide_eq_true_eq] at h
    obtain ⟨l1, l2, l3, b1, b2, b3⟩ := h
    obtain ⟨x1, y1, e1⟩ := two_of l1
    obtain ⟨x2, y2, e2⟩ := two_of l2
    obtain ⟨x3, y3, e3⟩ := two_of l3
    rw [e1] at b1
    rw [e2] at b2
    rw [e3] at b3
    simp only [List.all_cons, List.all_nil, Bool.and_true, Bool.and_eq_true, allB] at b1 b2 b3
    exact ⟨⟨x1, y1, by rw [e1], b1⟩, ⟨x2, y2, by rw [e2], b2⟩, ⟨x3, y3, by rw [e3], b3⟩⟩
  exact ⟨a1, a2, a3, a4, inB_yes a8, a5, a6, a7, fun s hs => (parts s hs).1, fun s hs => (parts s hs).2.1, fun s hs => (parts s hs).2.2⟩

/-- A state and a stack. -/
structure StM (c : Ck) (p : Int × List Int) : Prop where
  state : 0 ≤ p.1 ∧ p.1 < c.accept.length
  marks : ∀ x ∈ p.2, 0 ≤ x ∧ x < c.stack
theorem StM.start {c : Ck} (h : OkC c) : StM c (c.start, []) := ⟨h.start, fun x hx => by cases hx⟩

/-- What lies where a run looks. -/
theorem OkC.callAt {c : Ck} (h : OkC c) {s k : Int} (hs : 0 ≤ s ∧ s < c.accept.length) (hk : k = 0 ∨ k = 1) :
    ∃ row, c.call[s.toNat]? = some row ∧ row.length = 2 ∧ row[k.toNat]? = some (callM c s k) ∧ (0 ≤ (callM c s k).1 ∧ (callM c s k).1 < c.accept.length) ∧ (0 ≤ (callM c s k).2 ∧ (callM c s k).2 < c.stack) := by
  obtain ⟨x, y, e, hx, hy⟩ := h.call s.toNat (by omega)
  simp only [pB, Bool.and_eq_true] at hx hy
  rcases hk with rfl | rfl
  · have e2 : callM c s 0 = x := by rw [callM, e]; rfl
    rw [e2]
    exact ⟨_, e, rfl, rfl, inB_yes hx.1, inB_yes hx.2⟩
  · have e2 : callM c s 1 = y := by rw [callM, e]; rfl
    rw [e2]
    exact ⟨_, e, rfl, rfl, inB_yes hy.1, inB_yes hy.2⟩
theorem listB_at {xs : List Int} {m n x : Int} (h : listB xs (m + 1) n = true) (hx : 0 ≤ x ∧ x ≤ m) : xs.length = (m + 1).toNat ∧ ∃ y, xs[x.toNat]? = some y ∧ 0 ≤ y ∧ y < n := by
  rw [listB, Bool.and_eq_true, decide_eq_true_eq] at h
  obtain ⟨h1, h2⟩ := h
  refine ⟨by omega, ?_⟩
  have hl : x.toNat < xs.length := by omega
  rw [allB, List.all_eq_true] at h2
  exact ⟨xs[x.toNat], List.getElem?_eq_getElem hl, inB_yes (h2 _ (List.getElem_mem hl))⟩
theorem OkC.retAt {c : Ck} (h : OkC c) {s k x : Int} (hs : 0 ≤ s ∧ s < c.accept.length) (hk : k = 0 ∨ k = 1) (hx : 0 ≤ x ∧ x ≤ c.stack) :
    ∃ rows row, c.ret[s.toNat]? = some rows ∧ rows.length = 2 ∧ rows[k.toNat]? = some row ∧ row.length = (c.stack + 1).toNat ∧ row[x.toNat]? = some (retM c s k x) ∧ 0 ≤ retM c s k x ∧ retM c s k x < c.accept.length := by
  obtain ⟨a, b, e, ha, hb⟩ := h.ret s.toNat (by omega)
  rcases hk with rfl | rfl
  · obtain ⟨l, y, hy, hy2⟩ := listB_at ha hx
    have e2 : retM c s 0 x = y := by rw [retM, e]; simp [hy]
    rw [e2]
    exact ⟨_, a, e, rfl, rfl, l, hy, hy2⟩
  · obtain ⟨l, y, hy, hy2⟩ := listB_at hb hx
    have e2 : retM c s 1 x = y := by rw [retM, e]; simp [hy]
    rw [e2]
    exact ⟨_, b, e, rfl, rfl, l, hy, hy2⟩
theorem OkC.innAt {c : Ck} (h : OkC c) {s k : Int} (hs : 0 ≤ s ∧ s < c.accept.length) (hk : k = 0 ∨ k = 1) :
    ∃ row, c.inner[s.toNat]? = some row ∧ row.length = 2 ∧ row[k.toNat]? = some (innM c s k) ∧ 0 ≤ innM c s k ∧ innM c s k < c.accept.length := by
  obtain ⟨x, y, e, hx, hy⟩ := h.inner s.toNat (by omega)
  rcases hk with rfl | rfl
  · have e2 : innM c s 0 = x := by rw [innM, e]; rfl
    rw [e2]
    exact ⟨_, e, rfl, rfl, inB_yes hx⟩
  · have e2 : innM c s 1 = y := by rw [innM, e]; rfl
    rw [e2]
    exact ⟨_, e, rfl, rfl, inB_yes hy⟩

theorem last_mem {p : List Int} {x : Int} (h : p.getLast? = some x) : x ∈ p := List.mem_of_getLast? h
theorem StM.step {c : Ck} (h : OkC c) {p : Int × List Int} (hp : StM c p) {k : Int} (hk : 0 ≤ k ∧ k ≤ 5) : StM c (stepM c p k) := by
  unfold stepM
  by_cases h1 : k ≤ 1
  · rw [if_pos h1]
    obtain ⟨row, _, _, _, h2, h3⟩ := h.callAt hp.state (k := k) (by omega)
    refine ⟨h2, fun x hx => ?_⟩
    rcases List.mem_append.1 hx with hx | hx
    · exact hp.marks x hx
    · rw [List.mem_singleton.1 hx]; exact h3
  rw [if_neg h1]
  by_cases h3 : k ≤ 3
  · rw [if_pos h3]
    cases hl : p.2.getLast? with
    | none =>
      obtain ⟨_, _, _, _, _, _, _, h4⟩ := h.retAt hp.state (k := k - 2) (x := c.stack) (by omega) ⟨by have := h.st1; omega, Int.le_refl _⟩
      exact ⟨h4, fun x hx => by cases hx⟩
    | some x =>
      have hm := hp.marks x (last_mem hl)
      obtain ⟨_, _, _, _, _, _, _, h4⟩ := h.retAt hp.state (k := k - 2) (x := x) (by omega) (by omega)
      exact ⟨h4, fun y hy => hp.marks y (List.dropLast_subset _ hy)⟩
  · rw [if_neg h3]
    obtain ⟨_, _, _, _, h4⟩ := h.innAt hp.state (k := k - 4) (by omega)
    exact ⟨h4, hp.marks⟩
theorem StM.go {c : Ck} (h : OkC c) (ks : List Int) (hk : ∀ k ∈ ks, 0 ≤ k ∧ k ≤ 5) : ∀ p : Int × List Int, StM c p → StM c (goM c p ks) := by
  induction ks with
  | nil => intro p hp; exact hp
  | cons k ks ih => intro p hp; exact ih (fun x hx => hk x (List.mem_cons_of_mem _ hx)) _ (hp.step h (hk k List.mem_cons_self))
/-- A step makes a stack longer by one at the most. -/
theorem step_len (c : Ck) (p : Int × List Int) (k : Int) : (stepM c p k).2.length ≤ p.2.length + 1 := by
  unfold stepM
  by_cases h1 : k ≤ 1
  · rw [if_pos h1]; simp
  rw [if_neg h1]
  by_cases h3 : k ≤ 3
  · rw [if_pos h3]
    cases hl : p.2.getLast? with
    | none => simp
    | some x => simp; omega
  · rw [if_neg h3]; simp
theorem go_len (c : Ck) (ks : List Int) : ∀ p : Int × List Int, (goM c p ks).2.length ≤ p.2.length + ks.length := by
  induction ks with
  | nil => intro p; simp [goM]
  | cons k ks ih =>
    intro p
    have h1 := ih (stepM c p k)
    have h2 := step_len c p k
    simp only [goM, List.foldl_cons, List.length_cons] at h1 ⊢
    omega
end Go.Proofs.Yticmekdfdilcpaa
