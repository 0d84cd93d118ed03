import Derived.Test.YtblgjedjljfmcaaGreatDoorMFnExactUndoTreeEdit1
import Derived.RangeFuncNested
import Derived.RangeFuncBound
import Derived.RangeFuncCalls
import Derived.RangeFuncLeaves
import Derived.RangeFuncFrom
import Derived.RangeFuncWrites
import Derived.OwnWalkIn
import Derived.Maps.AppendAt
import Derived.Test.YtblgjedjljfmcaaGreatDoorMFnExactUndoTreeEdit22
/- A range over a function whose iterator keeps blocks of its own between two rounds: the contract and the caller's law. -/
namespace Go.Proofs.YtblgjedjljfmcaaGreatDoor
open Go.RowKit

/-- The blocks of B lie as they lay. -/
def SameOn (B : Nat → Prop) (W W' : World) : Prop := ∀ b, B b → W'.heap[b]? = W.heap[b]?
theorem SameOn.refl (B : Nat → Prop) (W : World) : SameOn B W W := fun _ _ => rfl
theorem SameOn.trans {B : Nat → Prop} {X Y Z : World} (h : SameOn B X Y) (k : SameOn B Y Z) : SameOn B X Z := fun b hb => (k b hb).trans (h b hb)
theorem SameOn.alloc {B : Nat → Prop} (W : World) (o : Obj) (h : ∀ b, B b → b < W.heap.size) : SameOn B W (W.alloc o) := fun b hb => Below.heap_alloc W o b (h b hb)
theorem SameOn.grown {B : Nat → Prop} {W W' : World} {row : Option Nat} (hg : W.grownBy W' row) (h : ∀ b, B b → b < W.heap.size) (hr : ∀ r, row = some r → ¬ B r) : SameOn B W W' :=
  fun b hb => hg.block b (h b hb) (fun e => hr b e.symm hb)

/-- What the iterator may do between two rounds: new blocks join its own, and it turns blocks of its own. -/
def StepB (B : Nat → Prop) (W : World) (B' : Nat → Prop) (W' : World) (row : Option Nat) : Prop :=
  W.grownBy W' row ∧ (∀ r, row = some r → B r) ∧ (∀ k, B' k → B k ∨ (W.heap.size ≤ k ∧ k < W'.heap.size))
def AbidesB {α : Type} (J : List α → (Nat → Prop) → World → Prop) : Prop := ∀ pre B B' W W' row, J pre B W → StepB B W B' W' row → J pre B' W'

/-- What the caller says abides the iterator's steps, and a turn of a block from n0 on that holds no cells. -/
def OwnB {α : Type} (n0 : Nat) (I : List α → (Nat → Prop) → World → Prop) : Prop :=
  ∀ pre B B' W W' row, I pre B W → W.grownBy W' row → (∀ r, row = some r → B r ∨ (n0 ≤ r ∧ ∃ o : Obj, W.heap[r]? = some o ∧ o.isCells = false)) →
    (∀ k, B' k → B k ∨ (W.heap.size ≤ k ∧ k < W'.heap.size)) → I pre B' W'

theorem OwnB.putObj {α : Type} {n0 : Nat} {I : List α → (Nat → Prop) → World → Prop} (h : OwnB n0 I) {pre : List α} {B : Nat → Prop} {W : World} {l : Nat} {o : Obj} (o' : Obj) (hs : I pre B W) (hB : n0 ≤ l) (hl : W.heap[l]? = some o) (ho : o.isCells = false) : I pre B (W.putObj l o') :=
  h pre B B W _ (some l) hs (grownBy_putObj' W l o') (fun r e => by cases e; exact .inr ⟨hB, o, hl, ho⟩) (fun _ hk => .inl hk)
theorem OwnB.alloc {α : Type} {n0 : Nat} {I : List α → (Nat → Prop) → World → Prop} (h : OwnB n0 I) {pre : List α} {B : Nat → Prop} {W : World} (o : Obj) (hs : I pre B W) : I pre B (W.alloc o) :=
  h pre B B W _ none hs (World.grownBy_alloc W o none) (fun r e => by cases e) (fun _ hk => .inl hk)

/-- The contract of an iterator that keeps blocks of its own: all its rounds go on. -/
def SeqB {α : Type} (F : Fence) (n : Nat) (P : Program) (g : Nat) (lb : Array Value) (encs : α → Array Value) (Kp : World → World → Prop) (S : List α → Prop) (N : Nat) (w : World) : Prop :=
  ∀ (l : Nat) (J : List α → (Nat → Prop) → World → Prop) (W : World), Below w.heap.size w W → AbidesB J →
    (∀ pre x B W1, J pre B W1 → pre.length < N → YieldAt F (n - 1) P l (encs x) W1 fun e W' =>
      e = .returned (.bool true) ∧ J (pre ++ [x]) B W' ∧ Kp W1 W' ∧ SameOn B W1 W') →
    J [] (fun _ => False) W →
    CallsIn F n P g (#[.func (.yield l) #[] #[]] ++ lb) W fun e W' => (∃ v, e = .returned v) ∧ ∃ xs B, S xs ∧ J xs B W'

def postB {α : Type} (n0 : Nat) (Kp : World → World → Prop) (I : List α → (Nat → Prop) → World → Prop) (xs : List α) (B : Nat → Prop) (W : World) : Exit → Act → World → Prop
  | .normal, _, W' => KeepsFrom n0 W W' ∧ Kp W W' ∧ SameOn B W W' ∧ I xs B W'
  | .ret, _, _ => False
  | .exit _, _, _ => False
  | .goto _, _, _ => False
  | .panic _, _, _ => False
  | .outgrown, _, _ => False

variable {F : Fence} {n : Nat} {P : Program}

theorem wpIn_rangeFunc_ownB {α : Type} {g : Operand} {ps : Array Tmp} {assign body : Code} {Q : Exit → Act → World → Prop} {a : Act} {w : World}
    (hro : F.round = none) (h1 : 1 ≤ n) {gf : Nat} {lb : Array Value} (hg : a.eval g = .func (.func gf) #[] lb) (hFg : F.fn gf) (eg : ∀ args w, (callFunc gf args).run P w = .ok (.enter gf args) w)
    {encs : α → Array Value} {Kp : World → World → Prop} {S : List α → Prop} {N : Nat} {w0 : World} (hseq : SeqB F (n - 1) P gf lb encs Kp S N w0)
    (hKt : ∀ {A B C : World}, Kp A B → Kp B C → Kp A C) (hKb : ∀ (W : World) (l : Nat) (o o' : Obj), w.heap.size ≤ l → W.heap[l]? = some o → o.isCells = false → o.isWalk = false → Kp W (W.putObj l o')) (hb0 : Below w0.heap.size w0 w) (hps : ∀ x, (encs x).size = ps.size)
    (I : List α → (Nat → Prop) → World → Prop) (hI : OwnB w.heap.size I) (h0 : I [] (fun _ => False) w) (a₁ : α → Act)
    (hassign : ∀ (l : Nat) (x : α) (W : World) (K : Act → World → Prop), K (a₁ x) W →
      assign.wpIn (F.inRound l) (n - 1 - 1) P (Exit.then K (fun _ _ _ => False)) { tmps := (ps.zip (encs x)).foldl (fun t (p, v) => t.setIfInBounds p v) a.tmps, defers := [] } W)
    (hbody : ∀ (l : Nat) (pre : List α) (x : α) (B : Nat → Prop) (W : World), I pre B W → pre.length < N → body.wpIn (F.inRound l) (n - 1 - 1) P (postB w.heap.size Kp I (pre ++ [x]) B W) (a₁ x) W)
    (hdone : ∀ (D : Nat) (xs : List α) (B : Nat → Prop) (W : World), w.heap.size ≤ D → S xs → I xs B W → W.heap[D]? = some (.deferred (some [])) → Q .normal { a with defers := { target := .collected D, args := #[] } :: a.defers } W) :
    (Code.rangeFunc g ps assign body).wpIn F n P Q a w := by
  refine wpIn_rangeFunc fun fn hfn => ?_
  rw [hro]
  let rec_ : LoopState → Loop := fun st => { state := st, pending := none, fn, tmps := a.tmps, params := ps, assign, body, defers := w.heap.size }
  obtain ⟨R, hR⟩ : ∃ R, R = rec_ := ⟨_, rfl⟩
  obtain ⟨d, hd⟩ : ∃ d, d = w.heap.size := ⟨_, rfl⟩
  obtain ⟨W1, hW1⟩ : ∃ W1, W1 = (w.alloc (.deferred (some []))).alloc (.loop (R .ready)) := ⟨_, rfl⟩
  have hL1 : W1.heap[d + 1]? = some (.loop (R .ready)) := by
    have h := World.alloc_heap_new (w.alloc (.deferred (some []))) (.loop (R .ready))
    rw [World.size_alloc] at h
    rw [hW1, hd]; exact h
  have hK1 : W1.heap[d]? = some (.deferred (some [])) := by
    rw [hW1, hd]; exact (Below.heap_alloc _ _ _ (by simp)).trans (World.alloc_heap_new w _)
  have hI1 : I [] (fun _ => False) W1 := by rw [hW1]; exact hI.alloc _ (hI.alloc _ h0)
  have hb1 : Below w0.heap.size w0 W1 := by
    rw [hW1]; exact hb0.trans ((((Below.refl _ w).alloc (Nat.le_refl _) _).alloc (by simp) _).mono hb0.size)
  have hRd : ∀ st, R st = rec_ st := fun st => by rw [hR]
  let J : List α → (Nat → Prop) → World → Prop := fun pre B W => I pre B W ∧ W.heap[d + 1]? = some (.loop (R .ready)) ∧ W.heap[d]? = some (.deferred (some [])) ∧ ¬ B (d + 1) ∧ ¬ B d
  have hJ : AbidesB J := by
    rintro pre B B' W W' row ⟨hi, hl, hk, hnl, hnd⟩ ⟨hg', hr, hB'⟩
    have ll := (Array.getElem?_eq_some_iff.1 hl).1
    have ld := (Array.getElem?_eq_some_iff.1 hk).1
    refine ⟨hI pre B B' W W' row hi hg' (fun r e => .inl (hr r e)) hB', (hg'.block _ ll (fun e => hnl (hr _ e.symm))).trans hl, (hg'.block _ ld (fun e => hnd (hr _ e.symm))).trans hk, fun h => ?_, fun h => ?_⟩
    · rcases hB' _ h with h | h
      · exact hnl h
      · omega
    · rcases hB' _ h with h | h
      · exact hnd h
      · omega
  refine ⟨d + 1, [{ target := .collected d, args := #[] }], W1, { target := .fn (.func gf) lb, args := #[.func (.yield (d + 1)) #[] #[]] }, W1, gf,
    #[.func (.yield (d + 1)) #[] #[]] ++ lb, W1, ?_, ?_, ?_, ?_, fun _ => h1, ?_⟩
  · rw [hW1, hd, hRd]; exact run_enterLoop_outer _ _ _ _ _
  · simp only [resolve, hg]
    simp [go_sem]
  · intro f' hf'; simp [Target.leads] at hf'; subst hf'; exact hFg
  · simp [invoke, go_sem, eg]
  refine (hseq (d + 1) J W1 hb1 hJ ?_ ⟨hI1, hL1, hK1, fun h => h, fun h => h⟩).mono ?_
  · rintro pre x B W ⟨hi, hl, hk, hnl, hnd⟩ hlen
    have hlt : d + 1 < W.heap.size := (Array.getElem?_eq_some_iff.1 hl).1
    have hy := run_yield (P := P) (args := encs x) hl (by rw [hRd]; exact hps x)
    rw [hRd] at hy
    refine ⟨fn, _, assign, body, hy, roundIn_of_wpIn hfn (hassign _ x W _ ⟨_, run_beginRound hl (by rw [hRd]), ?_⟩)⟩
    obtain ⟨V, hV⟩ : ∃ V, V = W.putObj (d + 1) (.loop { R .ready with state := .busy }) := ⟨_, rfl⟩
    have hl2 : V.heap[d + 1]? = some (.loop { R .ready with state := .busy }) := by rw [hV]; exact World.putObj_heap_same hlt
    have hk2 : V.heap[d]? = some (.deferred (some [])) := by rw [hV]; exact (World.putObj_heap_other (by omega)).trans hk
    have hw2 : Kp W V := by rw [hV]; exact hKb _ _ _ _ (by omega) hl rfl rfl
    have hs2 : SameOn B W V := fun b hb => by rw [hV]; exact World.putObj_heap_other (fun e => hnl (e ▸ hb))
    have hi2 : I pre B V := by rw [hV]; exact hI.putObj _ hi (by omega) hl rfl
    rw [← hV]
    refine wpIn_mono (hbody _ pre x B V hi2 hlen) ?_
    rintro e a3 W3 hp
    cases e with
    | normal =>
      obtain ⟨hk3, hkp3, hs3, hi3⟩ := hp
      have hl3 := hk3.same _ _ (by omega) hl2 rfl
      have hd3 := hk3.same _ _ (by omega) hk2 rfl
      have hend := run_endRound (P := P) none hl3
      refine ⟨_, _, hend, rfl, ⟨hI.putObj _ hi3 (by omega) hl3 rfl, ?_, (World.putObj_heap_other (by omega)).trans hd3, hnl, hnd⟩, hKt (hKt hw2 hkp3) (hKb _ _ _ _ (by omega) hl3 rfl rfl), ?_⟩
      · rw [World.putObj_heap_same (Array.getElem?_eq_some_iff.1 hl3).1, hRd]; rfl
      · exact (hs2.trans hs3).trans fun b hb => World.putObj_heap_other (fun e => hnl (e ▸ hb))
    | ret => exact hp.elim
    | exit id => exact hp.elim
    | goto t => exact hp.elim
    | panic ch => exact hp.elim
    | outgrown => exact hp.elim
  · rintro e W2 ⟨⟨v, rfl⟩, xs, B, hS, hi, hl, hk, hnl, hnd⟩
    have hend := run_endLoop (P := P) hl (by rw [hRd]; simp [rec_])
    have hpe : (R .ready).pending = none := by rw [hRd]
    rw [hpe] at hend
    exact ⟨none, _, hend, hdone d xs B _ (by omega) hS (hI.putObj _ hi (by omega) hl rfl) ((World.putObj_heap_other (by omega)).trans hk)⟩

/-- append in a round: where the new slice lies, too. -/
theorem appendAt_in (w : World) {ops : Array Oper} {rest : List Oper} {o : Oper} {a : Act} {Q : Exit → Act → World → Prop}
    (hgd : o.guard = none) (s x : Operand) (t : TypeId) (hop : o.op = Op.call { callee := Callee.builtin Builtin.append, args := #[s, x], argTypes := #[t, t] })
    (base : Nat) (e : TypeId) (i : TypeInfo) (z : Value) (size bytes : Nat) (h1 : P.underlying t = some (.slice e)) (h2 : P.info? e = some i) (h3 : i.zero = some z) (h4 : i.size = size) (h5 : i.bytes = bytes) (h6 : z.cells.size = size) (h7 : 0 < size)
    (v : Value) (k : Nat) (xs : List Value) (hs : a.eval s = v) (hown : w.ownsRow base e size v k xs) (ad : Addr) (m c : Nat) (news : List Value) (hx : a.eval x = .slice (some ad) m c) (hn : news.length = m * size)
    (hc : ∀ j u, news[j]? = some u → w.cell? (ad.add j) = some u) (h1c : ∀ u ∈ news, u.oneCell' = true) (b1 : k + m ≤ maxLen) (b2 : (k + m) * bytes ≤ 140737488355328) (b3 : base ≤ w.heap.size)
    (hK : ∀ v' w', w'.ownsRow base e size v' (k + m) (xs ++ news) → w.grownBy w' v.ownBlock → (v'.ownBlock = v.ownBlock ∨ v'.ownBlock = some w.heap.size) → wpListIn F n P ops Q rest (a.put o.dst v') w') :
    wpListIn F n P ops Q (o :: rest) a w := by
  refine wpListIn_plain hgd fun K hK' => ?_
  obtain ⟨v', w', hrun, r1, r2, _, r4⟩ := run_append_own_at (P := P) w base t o.type e i z size bytes h1 h2 h3 h4 h5 h6 h7 v k xs hown ad m c news hn hc h1c b1 b2 b3
  unfold Oper.wpIn
  refine ⟨by simp [Oper.about, hop, resolve, Target.leads, Sem.run_pure], ?_⟩
  rw [Oper.semAt_plain F _ _ (by rw [hop]; intro c hc'; cases hc')]
  simp [execOp, hop, resolve, invoke, builtin, hs, hx, hrun, Result.andThen]
  exact hK' _ _ (hK v' w' r1 r2 r4)

/-- A row of the iterator's lies as it lay. -/
theorem row_same {w w' : World} {base : Nat} {e : TypeId} {size k : Nat} {v : Value} {xs : List Value} (h : w.ownsRow base e size v k xs) (hs : ∀ g, v.ownBlock = some g → w'.heap[g]? = w.heap[g]?) : w'.ownsRow base e size v k xs := by
  refine ⟨h.1, ?_⟩
  rcases h.2 with h0 | ⟨g, cap, cur, rfl, hb, hg, rest⟩
  · exact .inl h0
  · exact .inr ⟨g, cap, cur, rfl, hb, (hs g rfl).trans hg, rest⟩
end Go.Proofs.YtblgjedjljfmcaaGreatDoor
/- The places of a word with their parents: the iterator places by its contract. -/
namespace Go.Proofs.YtblgjedjljfmcaaGreatDoor
open Go.RowKit Go.Shelf

attribute [local go_sem] Oper.semAt_some

/-- The first k places. -/
def upTo (N : Nat) : Nat → List (Fin N)
  | 0 => []
  | k + 1 => if h : k < N then upTo N k ++ [⟨k, h⟩] else upTo N k
theorem upTo_succ {N k : Nat} (h : k < N) : upTo N (k + 1) = upTo N k ++ [⟨k, h⟩] := by rw [upTo, dif_pos h]
theorem upTo_len (N k : Nat) : (upTo N k).length ≤ k := by
  induction k with
  | zero => simp [upTo]
  | succ k ih =>
    rw [upTo]
    split
    · simp; omega
    · omega
theorem upTo_val (N k : Nat) (h : k ≤ N) : (upTo N k).map (fun x => x.val) = List.range k := by
  induction k with
  | zero => rfl
  | succ k ih => rw [upTo_succ (by omega), List.map_append, ih (by omega), List.range_succ]; rfl

/-- The open calls, behind what stands for none. -/
def opnI (L : List Nat) : List Int := -1 :: L.map fun a : Nat => (a : Int)
theorem opnI_len (L : List Nat) : (opnI L).length = L.length + 1 := by simp [opnI]
theorem opnI_snoc (L : List Nat) (a : Nat) : opnI (L ++ [a]) = opnI L ++ [(a : Int)] := by simp [opnI]
theorem opnI_last (L : List Nat) : (opnI L)[L.length]? = some (lastI L) := by
  unfold opnI lastI
  rcases List.eq_nil_or_concat L with h | ⟨L', a, h⟩
  · subst h; rfl
  · subst h
    rw [List.concat_eq_append]
    simp

section
variable {ks : List Nat} {k : Nat}
theorem rnd_call (h : ks[k]? = some 0) : rnd ks k = opns (ks.take k) ∧ opns (ks.take (k + 1)) = opns (ks.take k) ++ [k] := by
  have hl := (List.getElem?_eq_some_iff.1 h).1
  refine ⟨by rw [rnd, h]; simp, ?_⟩
  rw [List.take_add_one, h]
  have := (prts_call (ks.take k)).2
  rw [List.length_take, Nat.min_eq_left (by omega)] at this
  simpa using this
theorem rnd_ret (h : ks[k]? = some 1) : rnd ks k = (opns (ks.take k)).dropLast ∧ opns (ks.take (k + 1)) = rnd ks k := by
  have e : rnd ks k = (opns (ks.take k)).dropLast := by rw [rnd, h]; simp
  refine ⟨e, ?_⟩
  rw [List.take_add_one, h, e]
  show opns (ks.take k ++ [1]) = _
  cases hl : (opns (ks.take k)).getLast? with
  | none =>
    have hn := List.getLast?_eq_none_iff.1 hl
    rw [(prts_ret_none _ hn).2, hn]; rfl
  | some b => exact (prts_ret_some _ b hl).2
theorem rnd_in {x : Nat} (h : ks[k]? = some x) (h0 : x ≠ 0) (h1 : x ≠ 1) : rnd ks k = opns (ks.take k) ∧ opns (ks.take (k + 1)) = opns (ks.take k) := by
  refine ⟨by rw [rnd, h, if_neg (fun e => h1 (Option.some.inj e))], ?_⟩
  rw [List.take_add_one, h]
  exact (prts_inner _ x h0 h1).2
theorem ret_pending (h : ks[k]? = some 1) : (prts ks)[k]? = some (-2) ↔ opns (ks.take k) = [] := by
  rw [prts_at_ret ks k h]
  cases hl : (opns (ks.take k)).getLast? with
  | none => simp [List.getLast?_eq_none_iff.1 hl]
  | some b =>
    constructor
    · intro e
      have := Option.some.inj e
      simp at this
    · intro e; rw [e] at hl; cases hl
end

/-- What the iterator knows between two rounds. -/
structure PRel {N : Nat} (J : List (Fin N) → (Nat → Prop) → World → Prop) (W : World) (n₀ Bs : Nat) (k : Nat) (L : List Nat) (m g c : Nat) (B : Nat → Prop) (wr : World) : Prop where
  len : L.length = m
  row : wr.ownsRow W.heap.size 2 1 (.slice (some ⟨g, 0, none⟩) (m + 1) c) (m + 1) (numsV (opnI L))
  own : B g
  inv : J (upTo N k) B wr
  kp : KpB n₀ Bs W wr

section
variable {N : Nat} {J : List (Fin N) → (Nat → Prop) → World → Prop} {W : World} {n₀ Bs k : Nat} {L : List Nat} {m g c : Nat} {B : Nat → Prop} {wr : World}
theorem PRel.last (h : PRel J W n₀ Bs k L m g c B wr) : wr.cell? ⟨g, m, none⟩ = some (.int .i64 (lastI L)) := by
  rw [h.row.cellAt m (by omega)]
  simp only [numsV, List.getElem?_map, ← h.len, opnI_last]
  rfl
theorem PRel.room (h : PRel J W n₀ Bs k L m g c B wr) : m + 1 ≤ c := by
  rcases h.row.2 with ⟨h0, _⟩ | ⟨g', cap, cur, hv, _, _, hle, _⟩
  · cases h0
  · simp only [Value.slice.injEq] at hv
    omega
theorem PRel.pop {a : Nat} (h : PRel J W n₀ Bs k (L ++ [a]) (m + 1) g c B wr) : PRel J W n₀ Bs k L m g c B wr := by
  have hl := h.len
  rw [List.length_append, List.length_singleton] at hl
  refine ⟨by omega, ?_, h.own, h.inv, h.kp⟩
  have r := h.row
  rw [opnI_snoc] at r
  exact ownsRow_pop (size := 1) (n := m + 1) (xs := numsV (opnI L)) (last := [.int .i64 (a : Int)]) (by simp [numsV, opnI]; omega) (by simpa [numsV] using r)
theorem PRel.round (h : PRel J W n₀ Bs k L m g c B wr) {W' : World} (hk : k < N) (hJ : J (upTo N k ++ [⟨k, hk⟩]) B W') (hkp : KpB n₀ Bs wr W') (hs : SameOn B wr W') : PRel J W n₀ Bs (k + 1) L m g c B W' := by
  refine ⟨h.len, row_same h.row (fun g' e => ?_), h.own, by rw [upTo_succ hk]; exact hJ, kpB_t h.kp hkp⟩
  simp [Value.ownBlock] at e
  subst e
  exact hs _ h.own
theorem PRel.push {a : Nat} (h : PRel J W n₀ Bs k L m g c B wr) (hJ : AbidesB J) (hn₀ : n₀ ≤ W.heap.size) (hBs : Bs < W.heap.size) {o : Obj} {v' : Value} {w1 : World}
    (hown : w1.ownsRow W.heap.size 2 1 v' (m + 1 + 1) (numsV (opnI L) ++ [.int .i64 (a : Int)])) (hg : (wr.alloc o).grownBy w1 (Value.slice (some ⟨g, 0, none⟩) (m + 1) c).ownBlock)
    (hat : v'.ownBlock = (Value.slice (some ⟨g, 0, none⟩) (m + 1) c).ownBlock ∨ v'.ownBlock = some (wr.alloc o).heap.size) :
    ∃ g' c' B', v' = .slice (some ⟨g', 0, none⟩) (m + 1 + 1) c' ∧ PRel J W n₀ Bs k (L ++ [a]) (m + 1) g' c' B' w1 := by
  obtain ⟨g', c', rfl⟩ := ownsRow_succ hown
  have hlt := hown.lt g' rfl
  have hgl := h.row.lt g rfl
  have hs0 := hg.size
  rw [World.size_alloc] at hs0
  have hg2 : wr.grownBy w1 (some g) := ⟨hg.os, hg.tape, hg.output, by omega, fun b hb hne => (hg.block b (by rw [World.size_alloc]; omega) hne).trans (Below.heap_alloc wr o b hb)⟩
  have hkw : KpB n₀ Bs wr w1 := by
    have hw := h.kp.1.size
    refine ⟨(Below.refl n₀ wr).grown hg2 (by omega) (fun j e => by cases e; omega), hg2.block Bs (by omega) (fun e => ?_)⟩
    have := Option.some.inj e
    omega
  refine ⟨g', c', fun b => B b ∨ (wr.heap.size ≤ b ∧ b < w1.heap.size), rfl, ⟨by simp [h.len], by rw [opnI_snoc]; simpa [numsV] using hown, ?_, ?_, kpB_t h.kp hkw⟩⟩
  · simp [Value.ownBlock] at hat
    rcases hat with e | e
    · exact .inl (e ▸ h.own)
    · exact .inr ⟨by omega, hlt.2⟩
  · exact hJ _ B _ wr w1 (some g) h.inv ⟨hg2, fun r e => by cases e; exact h.own, fun b hb => hb⟩
end

set_option maxRecDepth 100000 in
set_option maxHeartbeats 4000000 in
theorem plc_in (n l Bs n₀ gs M N c c' : Nat) (sy ps : List Int) (ks : List Nat) (hn : 1 ≤ n) (hN : N ≤ 60) (hsl : sy.length = N) (hks : ks = sy.map kindS) (hps : ps = prts ks)
    (hgs : gs < n₀) (hM : M < n₀) (hok : ∀ x ∈ sy, 0 ≤ x ∧ x ≤ 5) (J : List (Fin N) → (Nat → Prop) → World → Prop) (hJ : AbidesB J)
    (hY : ∀ pre (x : Fin N) B W1, J pre B W1 → pre.length < N → YieldAt Fence.wide (n - 1) Tryz.prog l #[.int .i64 (x.val : Int), .int .i64 (parI ks x.val)] W1 fun e W' =>
      e = .returned (.bool true) ∧ J (pre ++ [x]) B W' ∧ KpB n₀ Bs W1 W' ∧ SameOn B W1 W')
    (W : World) (hn₀ : n₀ ≤ W.heap.size) (hBs : Bs < W.heap.size) (hA : NestAt W Bs gs M N c c' sy ps) (h0 : J [] (fun _ => False) W) :
    CallsIn Fence.wide n Tryz.prog 148 #[.func (.yield l) #[] #[], .pointer (some ⟨Bs, 0, none⟩)] W fun e W' => (∃ v, e = .returned v) ∧
      ∃ xs B, xs = upTo N N ∧ J xs B W' := by
  have hb0 := hA.b0
  obtain ⟨i0, hi, hz0, hz1, hz2⟩ := info_parts info_i64
  have hkl : ks.length = N := by rw [hks, List.length_map]; exact hsl
  have hpl : ps.length = N := by rw [hps, prts_len]; exact hkl
  have hstart : PRel J W n₀ Bs 0 [] 0 W.heap.size 1 (fun b => b = W.heap.size) (W.alloc (.cells #[.int .i64 (-1)] 2)) := by
    refine ⟨rfl, ?_, rfl, ?_, ⟨(Below.refl n₀ W).alloc hn₀ _, Below.heap_alloc _ _ _ hBs⟩⟩
    · have h := World.ownsRow_lit (base := W.heap.size) (e := 2) (size := 1) W #[.int .i64 (-1)] 1 (Nat.le_refl _) (by unfold maxLen; omega) rfl
      simpa [numsV, opnI] using h
    · exact hJ [] _ _ W _ none h0 ⟨World.grownBy_alloc W _ none, (fun r e => by cases e), fun b hb => .inr ⟨by omega, by rw [World.size_alloc]; omega⟩⟩
  have Hstart := Lib.hid hstart
  have Hks := Lib.hid hks
  have Hps := Lib.hid hps
  have Hkl := Lib.hid hkl
  have Hpl := Lib.hid hpl
  have Hsl := Lib.hid hsl
  have Hok := Lib.hid hok
  clear hstart hks hps hkl hpl hsl hok h0
  refine callsIn_of_wp Tryz.func148 rfl trivial ?_ rfl
  simp only [Tryz.ntmps148, List.size_toArray, List.length_cons, List.length_nil, Nat.reduceAdd, Nat.reduceSub, Array.replicate_succ, Array.replicate_zero, List.push_toArray, List.append_toArray, List.nil_append, List.cons_append]
  gi_wp2
  gi_loopw [3, 10] (fun o i wr => ∃ (k m g cc : Nat) (B : Nat → Prop), k ≤ N ∧ i = .int .i64 k ∧ o = .slice (some ⟨g, 0, none⟩) (m + 1) cc ∧ PRel J W n₀ Bs k (opns (ks.take k)) m g cc B wr)
    (fun _ i _ => N - (intOf i).toNat)
  case atStart => exact ⟨0, 0, W.heap.size, 1, _, Nat.zero_le _, rfl, rfl, by simpa [opns, pst] using Hstart.out⟩
  case round =>
    clear Hstart
    obtain ⟨k, m, g, cc, B, hk, rfl, rfl, hR⟩ := hrel
    have hA' := hA.kept hgs hM hR.kp
    by_cases hlt : k < N
    · have hs : Hid (sy[k]? = some (sy[k]?.getD 0)) := by
        show _ = _
        rw [List.getElem?_eq_getElem (by rw [Hsl.out]; exact hlt)]; rfl
      obtain ⟨x, hx⟩ : ∃ x, x = sy[k]?.getD 0 := ⟨_, rfl⟩
      rw [← hx] at hs
      have hx5 := Hok.out _ (List.mem_of_getElem? hs.out)
      have hkk : Hid (ks[k]? = some (kindS x)) := by
        show _ = _
        rw [Hks.out, List.getElem?_map, hs.out]; rfl
      obtain ⟨p, hp⟩ : ∃ p, ps[k]? = some p := ⟨_, List.getElem?_eq_getElem (by rw [Hpl.out]; exact hlt)⟩
      have hcs := hA'.cs k _ hs.out
      have hcp := hA'.cp k _ hp
      have hb1 := hA'.b1
      have Hp := Lib.hid hp
      clear hx hp
      have hroom := hR.room
      have hml : m ≤ k := by
        have h1 := hR.len
        have h2 := opns_len (ks.take k)
        rw [List.length_take] at h2
        omega
      cases hc : callS x with
      | true =>
        have hrt : retS x = false := by
          have := hc
          simp only [callS, decide_eq_true_eq] at this
          simp only [retS, decide_eq_false_iff_not]; omega
        obtain ⟨e1, e2⟩ := rnd_call (ks := ks) (k := k) (by rw [hkk.out, kindS_call hc])
        have hpar : Hid (lastI (opns (ks.take k)) = parI ks k) := by show _ = _; rw [parI, e1]
        have E2 := Lib.hid e2
        have hlast := hR.last
        rw [hpar.out] at hlast
        obtain ⟨fn, tmps, assign, body, hy, hRd⟩ := hY (upTo N k) ⟨k, hlt⟩ B wr hR.inv (by have := upTo_len N k; omega)
        dsimp only at hy
        clear e1 e2 hb0
        gi_wp2_with (first
          | (refine ⟨trivial, ?_⟩; gi_at_call 87; refine (callsIn_wide.2 (impl_isReturn _ _ hx5)).mono ?_; rintro e w' ⟨rfl, rfl⟩; rw [hrt])
          | (refine ⟨trivial, ?_⟩; gi_at_call 86; refine (callsIn_wide.2 (impl_isCall _ _)).mono ?_; rintro e w' ⟨rfl, rfl⟩; rw [hc]))
        refine hRd.mono ?_
        rintro e W3 ⟨rfl, hJ3, hk3, hs3⟩
        have hR3 := hR.round hlt hJ3 hk3 hs3
        have hW3 := hR3.row.lt g rfl
        gi_wp2_with (first
          | (refine ⟨trivial, ?_⟩; gi_at_call 86; refine (callsIn_wide.2 (impl_isCall _ _)).mono ?_; rintro e w' ⟨rfl, rfl⟩; rw [hc])
          | (gi_at_builtin; refine appendAt_in _ rfl _ _ 39 rfl W.heap.size 2 i0 (.int .i64 0) 1 8 Tryz.underlying39 hi hz0 hz1 hz2 rfl (by decide) _ _ _ rfl (hR3.row.alloc _) ⟨W3.heap.size, 0, none⟩ 1 1 [.int .i64 (k : Int)] rfl rfl (cell_one_new _ _ _) ?c2 ?c3 ?c4 ?c5 ?_))
        case c2 => simp [Value.oneCell']
        case c3 => unfold maxLen; omega
        case c4 => omega
        case c5 => simp; omega
        intro v' w1 hown hgr hat
        obtain ⟨g', c', B', rfl, hR4⟩ := hR3.push (a := k) hJ hn₀ hBs hown hgr (by rw [World.size_alloc]; exact hat)
        gi_wp2
        go_roundw
        case rel => exact ⟨k + 1, m + 1, g', c', B', by omega, by go_num, rfl, by rw [E2.out]; exact hR4⟩
        case measure => simp [intOf]; omega
      | false =>
        cases hrt : retS x with
        | false =>
          have h0 : kindS x ≠ 0 := by rw [kindS_in hc hrt]; decide
          have h1 : kindS x ≠ 1 := by rw [kindS_in hc hrt]; decide
          obtain ⟨e1, e2⟩ := rnd_in (ks := ks) (k := k) hkk.out h0 h1
          have hpar : Hid (lastI (opns (ks.take k)) = parI ks k) := by show _ = _; rw [parI, e1]
          have E2 := Lib.hid e2
          have hlast := hR.last
          rw [hpar.out] at hlast
          obtain ⟨fn, tmps, assign, body, hy, hRd⟩ := hY (upTo N k) ⟨k, hlt⟩ B wr hR.inv (by have := upTo_len N k; omega)
          dsimp only at hy
          clear e1 e2 hb0 h0 h1
          gi_wp2_with (first
            | (refine ⟨trivial, ?_⟩; gi_at_call 87; refine (callsIn_wide.2 (impl_isReturn _ _ hx5)).mono ?_; rintro e w' ⟨rfl, rfl⟩; rw [hrt])
            | (refine ⟨trivial, ?_⟩; gi_at_call 86; refine (callsIn_wide.2 (impl_isCall _ _)).mono ?_; rintro e w' ⟨rfl, rfl⟩; rw [hc]))
          refine hRd.mono ?_
          rintro e W3 ⟨rfl, hJ3, hk3, hs3⟩
          have hR3 := hR.round hlt hJ3 hk3 hs3
          gi_wp2_with (first
            | (refine ⟨trivial, ?_⟩; gi_at_call 87; refine (callsIn_wide.2 (impl_isReturn _ _ hx5)).mono ?_; rintro e w' ⟨rfl, rfl⟩; rw [hrt])
            | (refine ⟨trivial, ?_⟩; gi_at_call 86; refine (callsIn_wide.2 (impl_isCall _ _)).mono ?_; rintro e w' ⟨rfl, rfl⟩; rw [hc]))
          go_roundw
          case rel => exact ⟨k + 1, m, g, cc, B, by omega, by go_num, rfl, by rw [E2.out]; exact hR3⟩
          case measure => simp [intOf]; omega
        | true =>
          have h1 : ks[k]? = some 1 := by rw [hkk.out, kindS_ret hc hrt]
          obtain ⟨e1, e2⟩ := rnd_ret h1
          have hpend := ret_pending h1
          rw [← Hps.out, Hp.out] at hpend
          by_cases h2 : p = -2
          · have hz : opns (ks.take k) = [] := hpend.1 (by rw [h2])
            subst h2
            have hpar : Hid (lastI (opns (ks.take k)) = parI ks k) := by show _ = _; rw [parI, e1, hz]; rfl
            have E2 : Hid (opns (ks.take (k + 1)) = opns (ks.take k)) := by show _ = _; rw [e2, e1, hz]; rfl
            have hlast := hR.last
            rw [hpar.out] at hlast
            obtain ⟨fn, tmps, assign, body, hy, hRd⟩ := hY (upTo N k) ⟨k, hlt⟩ B wr hR.inv (by have := upTo_len N k; omega)
            dsimp only at hy
            clear e1 e2 hb0 h1 hpend hz
            gi_wp2_with (first
            | (refine ⟨trivial, ?_⟩; gi_at_call 87; refine (callsIn_wide.2 (impl_isReturn _ _ hx5)).mono ?_; rintro e w' ⟨rfl, rfl⟩; rw [hrt])
            | (refine ⟨trivial, ?_⟩; gi_at_call 86; refine (callsIn_wide.2 (impl_isCall _ _)).mono ?_; rintro e w' ⟨rfl, rfl⟩; rw [hc]))
            refine hRd.mono ?_
            rintro e W3 ⟨rfl, hJ3, hk3, hs3⟩
            have hR3 := hR.round hlt hJ3 hk3 hs3
            gi_wp2_with (first
            | (refine ⟨trivial, ?_⟩; gi_at_call 87; refine (callsIn_wide.2 (impl_isReturn _ _ hx5)).mono ?_; rintro e w' ⟨rfl, rfl⟩; rw [hrt])
            | (refine ⟨trivial, ?_⟩; gi_at_call 86; refine (callsIn_wide.2 (impl_isCall _ _)).mono ?_; rintro e w' ⟨rfl, rfl⟩; rw [hc]))
            go_roundw
            case rel => exact ⟨k + 1, m, g, cc, B, by omega, by go_num, rfl, by rw [E2.out]; exact hR3⟩
            case measure => simp [intOf]; omega
          · have hp2 : (p == -2) = false := by simpa using h2
            have hp3 : (p != -2) = true := by simpa using h2
            have hnz : opns (ks.take k) ≠ [] := fun e => h2 (Option.some.inj (hpend.2 e))
            obtain ⟨L, a, hL⟩ : ∃ L a, opns (ks.take k) = L ++ [a] := ⟨_, _, (List.dropLast_concat_getLast hnz).symm⟩
            cases m with
            | zero => have := hR.len; rw [hL] at this; simp at this
            | succ m =>
              rw [hL] at hR
              have hRp := hR.pop
              rw [hL, List.dropLast_concat] at e1
              have hpar : Hid (lastI L = parI ks k) := by show _ = _; rw [parI, e1]
              have E2 : Hid (opns (ks.take (k + 1)) = L) := by show _ = _; rw [e2, e1]
              have hlast := hRp.last
              rw [hpar.out] at hlast
              obtain ⟨fn, tmps, assign, body, hy, hRd⟩ := hY (upTo N k) ⟨k, hlt⟩ B wr hRp.inv (by have := upTo_len N k; omega)
              dsimp only at hy
              clear e1 e2 hb0 h1 hpend hnz hL h2
              gi_wp2_with (first
            | (refine ⟨trivial, ?_⟩; gi_at_call 87; refine (callsIn_wide.2 (impl_isReturn _ _ hx5)).mono ?_; rintro e w' ⟨rfl, rfl⟩; rw [hrt])
            | (refine ⟨trivial, ?_⟩; gi_at_call 86; refine (callsIn_wide.2 (impl_isCall _ _)).mono ?_; rintro e w' ⟨rfl, rfl⟩; rw [hc]))
              refine hRd.mono ?_
              rintro e W3 ⟨rfl, hJ3, hk3, hs3⟩
              have hR3 := hRp.round hlt hJ3 hk3 hs3
              gi_wp2_with (first
            | (refine ⟨trivial, ?_⟩; gi_at_call 87; refine (callsIn_wide.2 (impl_isReturn _ _ hx5)).mono ?_; rintro e w' ⟨rfl, rfl⟩; rw [hrt])
            | (refine ⟨trivial, ?_⟩; gi_at_call 86; refine (callsIn_wide.2 (impl_isCall _ _)).mono ?_; rintro e w' ⟨rfl, rfl⟩; rw [hc]))
              go_roundw
              case rel => exact ⟨k + 1, m, g, cc, B, by omega, by go_num, rfl, by rw [E2.out]; exact hR3⟩
              case measure => simp [intOf]; omega
    · obtain rfl : k = N := by omega
      gi_wp2
      go_end0
      exact ⟨⟨_, rfl⟩, _, B, rfl, hR.inv⟩

theorem plc_stops (n Bs n₀ gs M N c c' : Nat) (sy ps : List Int) (ks : List Nat) (hn : 1 ≤ n) (hN : N ≤ 60) (hsl : sy.length = N) (hks : ks = sy.map kindS) (hps : ps = prts ks)
    (hgs : gs < n₀) (hM : M < n₀) (hok : ∀ x ∈ sy, 0 ≤ x ∧ x ≤ 5) (w : World) (hn₀ : n₀ ≤ w.heap.size) (hBs : Bs < w.heap.size) (hA : NestAt w Bs gs M N c c' sy ps) :
    SeqB Fence.wide n Tryz.prog 148 #[.pointer (some ⟨Bs, 0, none⟩)] (fun x : Fin N => #[Value.int .i64 (x.val : Int), Value.int .i64 (parI ks x.val)]) (KpB n₀ Bs) (fun ys => ys = upTo N N) N w := fun l J W hW hJ hY h0 =>
  plc_in n l Bs n₀ gs M N c c' sy ps ks hn hN hsl hks hps hgs hM hok J hJ hY W (Nat.le_trans hn₀ hW.size) (Nat.lt_of_lt_of_le hBs hW.size) (hA.kept hgs hM ⟨hW.mono hn₀, hW.block Bs hBs⟩) h0

theorem places_in (F : Fence) (n : Nat) (hf : F.fn 147) (hro : F.round = none) (v0 v1 : Value) (w : World) :
    CallsIn F n Tryz.prog 147 #[.agg #[v0, v1]] w fun e w' =>
      e = .returned (.func (.func 148) #[] #[.pointer (some ⟨w.heap.size, 0, none⟩)]) ∧ w' = w.alloc (.cells #[v0, v1] 94) := by
  refine callsIn_of_wp Tryz.func147 rfl hf ?_ hro
  simp only [Tryz.ntmps147, List.size_toArray, List.length_cons, List.length_nil, Nat.reduceAdd, Nat.reduceSub, Array.replicate_succ, Array.replicate_zero, List.push_toArray, List.append_toArray, List.nil_append, List.cons_append]
  gi_wp2
  go_ret
  exact ⟨rfl, rfl⟩
end Go.Proofs.YtblgjedjljfmcaaGreatDoor
