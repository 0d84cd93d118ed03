/- A range over a function whose iterator keeps blocks of its own between two rounds: the contract and the caller's law. -/
import Derived.Test.YtclcebakhohfnaaMem
import Derived.RangeFuncNested
import Derived.RangeFuncBound
import Derived.RangeFuncCalls
import Derived.RangeFuncLeaves
import Derived.RangeFuncFrom
import Derived.RangeFuncWrites
import Derived.OwnWalkIn
import Derived.Maps.AppendAt
namespace Go.Proofs.Ytclcebakhohfnaa
open Go.RowKit

/-- The blocks of B lie as they lay. -/
def SameOn (B : Nat → Prop) (W W' : World) : Prop := ∀ b, B b → W'.heap[b]? = W.heap[b]?
theorem SameOn.refl (B : Nat → Prop) (W : World) : SameOn B W W := fun _ _ => rfl
theorem SameOn.trans {B : Nat → Prop} {X Y Z : World} (h : SameOn B X Y) (k : SameOn B Y Z) : SameOn B X Z := fun b hb => (k b hb).trans (h b hb)
theorem SameOn.alloc {B : Nat → Prop} (W : World) (o : Obj) (h : ∀ b, B b → b < W.heap.size) : SameOn B W (W.alloc o) := fun b hb => Below.heap_alloc W o b (h b hb)
theorem SameOn.grown {B : Nat → Prop} {W W' : World} {row : Option Nat} (hg : W.grownBy W' row) (h : ∀ b, B b → b < W.heap.size) (hr : ∀ r, row = some r → ¬ B r) : SameOn B W W' :=
  fun b hb => hg.block b (h b hb) (fun e => hr b e.symm hb)

/-- What the iterator may do between two rounds: new blocks join its own, and it turns blocks of its own. -/
def StepB (B : Nat → Prop) (W : World) (B' : Nat → Prop) (W' : World) (row : Option Nat) : Prop :=
  W.grownBy W' row ∧ (∀ r, row = some r → B r) ∧ (∀ k, B' k → B k ∨ (W.heap.size ≤ k ∧ k < W'.heap.size))
def AbidesB {α : Type} (J : List α → (Nat → Prop) → World → Prop) : Prop := ∀ pre B B' W W' row, J pre B W → StepB B W B' W' row → J pre B' W'

/-- What the caller says abides the iterator's steps, and a turn of a block from n0 on that holds no cells. -/
def OwnB {α : Type} (n0 : Nat) (I : List α → (Nat → Prop) → World → Prop) : Prop :=
  ∀ pre B B' W W' row, I pre B W → W.grownBy W' row → (∀ r, row = some r → B r ∨ (n0 ≤ r ∧ ∃ o : Obj, W.heap[r]? = some o ∧ o.isCells = false)) →
    (∀ k, B' k → B k ∨ (W.heap.size ≤ k ∧ k < W'.heap.size)) → I pre B' W'

theorem OwnB.putObj {α : Type} {n0 : Nat} {I : List α → (Nat → Prop) → World → Prop} (h : OwnB n0 I) {pre : List α} {B : Nat → Prop} {W : World} {l : Nat} {o : Obj} (o' : Obj) (hs : I pre B W) (hB : n0 ≤ l) (hl : W.heap[l]? = some o) (ho : o.isCells = false) : I pre B (W.putObj l o') :=
  h pre B B W _ (some l) hs (grownBy_putObj' W l o') (fun r e => by cases e; exact .inr ⟨hB, o, hl, ho⟩) (fun _ hk => .inl hk)
theorem OwnB.alloc {α : Type} {n0 : Nat} {I : List α → (Nat → Prop) → World → Prop} (h : OwnB n0 I) {pre : List α} {B : Nat → Prop} {W : World} (o : Obj) (hs : I pre B W) : I pre B (W.alloc o) :=
  h pre B B W _ none hs (World.grownBy_alloc W o none) (fun r e => by cases e) (fun _ hk => .inl hk)

/-- The contract of an iterator that keeps blocks of its own: all its rounds go on. -/
def SeqB {α : Type} (F : Fence) (n : Nat) (P : Program) (g : Nat) (lb : Array Value) (encs : α → Array Value) (Kp : World → World → Prop) (S : List α → Prop) (N : Nat) (w : World) : Prop :=
  ∀ (l : Nat) (J : List α → (Nat → Prop) → World → Prop) (W : World), Below w.heap.size w W → AbidesB J →
    (∀ pre x B W1, J pre B W1 → pre.length < N → YieldAt F (n - 1) P l (encs x) W1 fun e W' =>
      e = .returned (.bool true) ∧ J (pre ++ [x]) B W' ∧ Kp W1 W' ∧ SameOn B W1 W') →
    J [] (fun _ => False) W →
    CallsIn F n P g (#[.func (.yield l) #[] #[]] ++ lb) W fun e W' => (∃ v, e = .returned v) ∧ ∃ xs B, S xs ∧ J xs B W'

def postB {α : Type} (n0 : Nat) (Kp : World → World → Prop) (I : List α → (Nat → Prop) → World → Prop) (xs : List α) (B : Nat → Prop) (W : World) : Exit → Act → World → Prop
  | .normal, _, W' => KeepsFrom n0 W W' ∧ Kp W W' ∧ SameOn B W W' ∧ I xs B W'
  | .ret, _, _ => False
  | .exit _, _, _ => False
  | .goto _, _, _ => False
  | .panic _, _, _ => False
  | .outgrown, _, _ => False

variable {F : Fence} {n : Nat} {P : Program}

theorem wpIn_rangeFunc_ownB {α : Type} {g : Operand} {ps : Array Tmp} {assign body : Code} {Q : Exit → Act → World → Prop} {a : Act} {w : World}
    (hro : F.round = none) (h1 : 1 ≤ n) {gf : Nat} {lb : Array Value} (hg : a.eval g = .func (.func gf) #[] lb) (hFg : F.fn gf) (eg : ∀ args w, (callFunc gf args).run P w = .ok (.enter gf args) w)
    {encs : α → Array Value} {Kp : World → World → Prop} {S : List α → Prop} {N : Nat} {w0 : World} (hseq : SeqB F (n - 1) P gf lb encs Kp S N w0)
    (hKt : ∀ {A B C : World}, Kp A B → Kp B C → Kp A C) (hKb : ∀ (W : World) (l : Nat) (o o' : Obj), w.heap.size ≤ l → W.heap[l]? = some o → o.isCells = false → o.isWalk = false → Kp W (W.putObj l o')) (hb0 : Below w0.heap.size w0 w) (hps : ∀ x, (encs x).size = ps.size)
    (I : List α → (Nat → Prop) → World → Prop) (hI : OwnB w.heap.size I) (h0 : I [] (fun _ => False) w) (a₁ : α → Act)
    (hassign : ∀ (l : Nat) (x : α) (W : World) (K : Act → World → Prop), K (a₁ x) W →
      assign.wpIn (F.inRound l) (n - 1 - 1) P (Exit.then K (fun _ _ _ => False)) { tmps := (ps.zip (encs x)).foldl (fun t (p, v) => t.setIfInBounds p v) a.tmps, defers := [] } W)
    (hbody : ∀ (l : Nat) (pre : List α) (x : α) (B : Nat → Prop) (W : World), I pre B W → pre.length < N → body.wpIn (F.inRound l) (n - 1 - 1) P (postB w.heap.size Kp I (pre ++ [x]) B W) (a₁ x) W)
    (hdone : ∀ (D : Nat) (xs : List α) (B : Nat → Prop) (W : World), w.heap.size ≤ D → S xs → I xs B W → W.heap[D]? = some (.deferred (some [])) → Q .normal { a with defers := { target := .collected D, args := #[] } :: a.defers } W) :
    (Code.rangeFunc g ps assign body).wpIn F n P Q a w := by
  refine wpIn_rangeFunc fun fn hfn => ?_
  rw [hro]
  let rec_ : LoopState → Loop := fun st => { state := st, pending := none, fn, tmps := a.tmps, params := ps, assign, body, defers := w.heap.size }
  obtain ⟨R, hR⟩ : ∃ R, R = rec_ := ⟨_, rfl⟩
  obtain ⟨d, hd⟩ : ∃ d, d = w.heap.size := ⟨_, rfl⟩
  obtain ⟨W1, hW1⟩ : ∃ W1, W1 = (w.alloc (.deferred (some []))).alloc (.loop (R .ready)) := ⟨_, rfl⟩
  have hL1 : W1.heap[d + 1]? = some (.loop (R .ready)) := by
    have h := World.alloc_heap_new (w.alloc (.deferred (some []))) (.loop (R .ready))
    rw [World.size_alloc] at h
    rw [hW1, hd]; exact h
  have hK1 : W1.heap[d]? = some (.deferred (some [])) := by
    rw [hW1, hd]; exact (Below.heap_alloc _ _ _ (by simp)).trans (World.alloc_heap_new w _)
  have hI1 : I [] (fun _ => False) W1 := by rw [hW1]; exact hI.alloc _ (hI.alloc _ h0)
  have hb1 : Below w0.heap.size w0 W1 := by
    rw [hW1]; exact hb0.trans ((((Below.refl _ w).alloc (Nat.le_refl _) _).alloc (by simp) _).mono hb0.size)
  have hRd : ∀ st, R st = rec_ st := fun st => by rw [hR]
  let J : List α → (Nat → Prop) → World → Prop := fun pre B W => I pre B W ∧ W.heap[d + 1]? = some (.loop (R .ready)) ∧ W.heap[d]? = some (.deferred (some [])) ∧ ¬ B (d + 1) ∧ ¬ B d
  have hJ : AbidesB J := by
    rintro pre B B' W W' row ⟨hi, hl, hk, hnl, hnd⟩ ⟨hg', hr, hB'⟩
    have ll := (Array.getElem?_eq_some_iff.1 hl).1
    have ld := (Array.getElem?_eq_some_iff.1 hk).1
    refine ⟨hI pre B B' W W' row hi hg' (fun r e => .inl (hr r e)) hB', (hg'.block _ ll (fun e => hnl (hr _ e.symm))).trans hl, (hg'.block _ ld (fun e => hnd (hr _ e.symm))).trans hk, fun h => ?_, fun h => ?_⟩
    · rcases hB' _ h with h | h
      · exact hnl h
      · omega
    · rcases hB' _ h with h | h
      · exact hnd h
      · omega
  refine ⟨d + 1, [{ target := .collected d, args := #[] }], W1, { target := .fn (.func gf) lb, args := #[.func (.yield (d + 1)) #[] #[]] }, W1, gf,
    #[.func (.yield (d + 1)) #[] #[]] ++ lb, W1, ?_, ?_, ?_, ?_, fun _ => h1, ?_⟩
  · rw [hW1, hd, hRd]; exact run_enterLoop_outer _ _ _ _ _
  · simp only [resolve, hg]
    simp [go_sem]
  · intro f' hf'; simp [Target.leads] at hf'; subst hf'; exact hFg
  · simp [invoke, go_sem, eg]
  refine (hseq (d + 1) J W1 hb1 hJ ?_ ⟨hI1, hL1, hK1, fun h => h, fun h => h⟩).mono ?_
  · rintro pre x B W ⟨hi, hl, hk, hnl, hnd⟩ hlen
    have hlt : d + 1 < W.heap.size := (Array.getElem?_eq_some_iff.1 hl).1
    have hy := run_yield (P := P) (args := encs x) hl (by rw [hRd]; exact hps x)
    rw [hRd] at hy
    refine ⟨fn, _, assign, body, hy, roundIn_of_wpIn hfn (hassign _ x W _ ⟨_, run_beginRound hl (by rw [hRd]), ?_⟩)⟩
    obtain ⟨V, hV⟩ : ∃ V, V = W.putObj (d + 1) (.loop { R .ready with state := .busy }) := ⟨_, rfl⟩
    have hl2 : V.heap[d + 1]? = some (.loop { R .ready with state := .busy }) := by rw [hV]; exact World.putObj_heap_same hlt
    have hk2 : V.heap[d]? = some (.deferred (some [])) := by rw [hV]; exact (World.putObj_heap_other (by omega)).trans hk
    have hw2 : Kp W V := by rw [hV]; exact hKb _ _ _ _ (by omega) hl rfl rfl
    have hs2 : SameOn B W V := fun b hb => by rw [hV]; exact World.putObj_heap_other (fun e => hnl (e ▸ hb))
    have hi2 : I pre B V := by rw [hV]; exact hI.putObj _ hi (by omega) hl rfl
    rw [← hV]
    refine wpIn_mono (hbody _ pre x B V hi2 hlen) ?_
    rintro e a3 W3 hp
    cases e with
    | normal =>
      obtain ⟨hk3, hkp3, hs3, hi3⟩ := hp
      have hl3 := hk3.same _ _ (by omega) hl2 rfl
      have hd3 := hk3.same _ _ (by omega) hk2 rfl
      have hend := run_endRound (P := P) none hl3
      refine ⟨_, _, hend, rfl, ⟨hI.putObj _ hi3 (by omega) hl3 rfl, ?_, (World.putObj_heap_other (by omega)).trans hd3, hnl, hnd⟩, hKt (hKt hw2 hkp3) (hKb _ _ _ _ (by omega) hl3 rfl rfl), ?_⟩
      · rw [World.putObj_heap_same (Array.getElem?_eq_some_iff.1 hl3).1, hRd]; rfl
      · exact (hs2.trans hs3).trans fun b hb => World.putObj_heap_other (fun e => hnl (e ▸ hb))
    | ret => exact hp.elim
    | exit id => exact hp.elim
    | goto t => exact hp.elim
    | panic ch => exact hp.elim
    | outgrown => exact hp.elim
  · rintro e W2 ⟨⟨v, rfl⟩, xs, B, hS, hi, hl, hk, hnl, hnd⟩
    have hend := run_endLoop (P := P) hl (by rw [hRd]; simp [rec_])
    have hpe : (R .ready).pending = none := by rw [hRd]
    rw [hpe] at hend
    exact ⟨none, _, hend, hdone d xs B _ (by omega) hS (hI.putObj _ hi (by omega) hl rfl) ((World.putObj_heap_other (by omega)).trans hk)⟩

/-- append in a round: where the new slice lies, too. -/
theorem appendAt_in (w : World) {ops : Array Oper} {rest : List Oper} {o : Oper} {a : Act} {Q : Exit → Act → World → Prop}
    (hgd : o.guard = none) (s x : Operand) (t : TypeId) (hop : o.op = Op.call { callee := Callee.builtin Builtin.append, args := #[s, x], argTypes := #[t, t] })
    (base : Nat) (e : TypeId) (i : TypeInfo) (z : Value) (size bytes : Nat) (h1 : P.underlying t = some (.slice e)) (h2 : P.info? e = some i) (h3 : i.zero = some z) (h4 : i.size = size) (h5 : i.bytes = bytes) (h6 : z.cells.size = size) (h7 : 0 < size)
    (v : Value) (k : Nat) (xs : List Value) (hs : a.eval s = v) (hown : w.ownsRow base e size v k xs) (ad : Addr) (m c : Nat) (news : List Value) (hx : a.eval x = .slice (some ad) m c) (hn : news.length = m * size)
    (hc : ∀ j u, news[j]? = some u → w.cell? (ad.add j) = some u) (h1c : ∀ u ∈ news, u.oneCell' = true) (b1 : k + m ≤ maxLen) (b2 : (k + m) * bytes ≤ 140737488355328) (b3 : base ≤ w.heap.size)
    (hK : ∀ v' w', w'.ownsRow base e size v' (k + m) (xs ++ news) → w.grownBy w' v.ownBlock → (v'.ownBlock = v.ownBlock ∨ v'.ownBlock = some w.heap.size) → wpListIn F n P ops Q rest (a.put o.dst v') w') :
    wpListIn F n P ops Q (o :: rest) a w := by
  refine wpListIn_plain hgd fun K hK' => ?_
  obtain ⟨v', w', hrun, r1, r2, _, r4⟩ := run_append_own_at (P := P) w base t o.type e i z size bytes h1 h2 h3 h4 h5 h6 h7 v k xs hown ad m c news hn hc h1c b1 b2 b3
  unfold Oper.wpIn
  refine ⟨by simp [Oper.about, hop, resolve, Target.leads, Sem.run_pure], ?_⟩
  rw [Oper.semAt_plain F _ _ (by rw [hop]; intro c hc'; cases hc')]
  simp [execOp, hop, resolve, invoke, builtin, hs, hx, hrun, Result.andThen]
  exact hK' _ _ (hK v' w' r1 r2 r4)

/-- A row of the iterator's lies as it lay. -/
theorem row_same {w w' : World} {base : Nat} {e : TypeId} {size k : Nat} {v : Value} {xs : List Value} (h : w.ownsRow base e size v k xs) (hs : ∀ g, v.ownBlock = some g → w'.heap[g]? = w.heap[g]?) : w'.ownsRow base e size v k xs := by
  refine ⟨h.1, ?_⟩
  rcases h.2 with h0 | ⟨g, cap, cur, rfl, hb, hg, rest⟩
  · exact .inl h0
  · exact .inr ⟨g, cap, cur, rfl, hb, (hs g rfl).trans hg, rest⟩
end Go.Proofs.Ytclcebakhohfnaa
