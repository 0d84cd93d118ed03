/- A region that draws its order, where each operation reads, reckons or makes memory of its own: one step an operation, whatever the order. -/
import Derived.RegionTactic
import Derived.WalkKit
import Derived.Below
import Derived.Test.YticmekdfdilcpaaOwn
namespace Go.Proofs.Yticmekdfdilcpaa
open Go Go.RowKit

def upd {α : Type} (f : Nat → α) (i : Nat) (x : α) : Nat → α := fun j => if j = i then x else f j
theorem upd_same {α : Type} (f : Nat → α) (i : Nat) (x : α) : upd f i x i = x := by simp [upd]
theorem upd_ne {α : Type} (f : Nat → α) {i j : Nat} (x : α) (h : j ≠ i) : upd f i x j = f j := by simp [upd, h]

/-- The slot of an operation. -/
def dstAt (ops : Array Oper) (i : Nat) : Option Tmp := (ops[i]?).bind (·.dst)
/-- The act in which the operations' slots hold the values of u. -/
def putsA (ops : Array Oper) (u : Nat → Value) (a : Act) : List Nat → Act
  | [] => a
  | i :: is => (putsA ops u a is).put (dstAt ops i) (u i)

theorem put_put (a : Act) (d : Option Tmp) (v u : Value) : (a.put d v).put d u = a.put d u := by
  cases d <;> simp [Act.put]
/-- No two of the operations have one slot. -/
def apartB (ops : Array Oper) : Bool := (List.range ops.size).all fun i => (List.range ops.size).all fun j => i == j || (dstAt ops i).isNone || dstAt ops i != dstAt ops j
theorem apart_of {ops : Array Oper} (h : apartB ops = true) {i j : Nat} (hi : i < ops.size) (hj : j < ops.size) (hne : i ≠ j) : ∀ d, dstAt ops i = some d → dstAt ops j ≠ some d := by
  intro d hd e
  unfold apartB at h
  rw [List.all_eq_true] at h
  have := h i (List.mem_range.2 hi)
  rw [List.all_eq_true] at this
  have := this j (List.mem_range.2 hj)
  simp [hne, hd, e] at this

theorem putsA_upd_off (ops : Array Oper) (u : Nat → Value) (a : Act) {i : Nat} (x : Value) : ∀ is : List Nat, i ∉ is → putsA ops (upd u i x) a is = putsA ops u a is
  | [], _ => rfl
  | j :: is, h => by
    simp only [List.mem_cons, not_or] at h
    rw [putsA, putsA, putsA_upd_off ops u a x is h.2, upd_ne u x (fun e => h.1 e.symm)]
theorem putsA_put {ops : Array Oper} (hp : apartB ops = true) (u : Nat → Value) (a : Act) {i : Nat} (x : Value) : ∀ is : List Nat, i ∈ is → is.Nodup → (∀ j ∈ is, j < ops.size) →
    (putsA ops u a is).put (dstAt ops i) x = putsA ops (upd u i x) a is
  | [], h, _, _ => by cases h
  | j :: is, h, hn, hl => by
    rw [List.nodup_cons] at hn
    rw [putsA, putsA]
    by_cases e : i = j
    · subst e
      rw [put_put, upd_same, putsA_upd_off ops u a x is hn.1]
    · have hm : i ∈ is := by rcases List.mem_cons.1 h with h | h; exact absurd h e; exact h
      rw [upd_ne u x (fun e' => e e'.symm), ← putsA_put hp u a x is hm hn.2 (fun k hk => hl k (List.mem_cons_of_mem _ hk))]
      rw [Act.put_comm _ _ _ (apart_of hp (hl j (List.mem_cons_self ..)) (hl i h) (fun e' => e e'.symm))]
/-- What the slots hold at first. -/
def atFirst (ops : Array Oper) (a : Act) (i : Nat) : Value := match dstAt ops i with | some d => a.tmps.getD d undef | none => undef
theorem putsA_first (ops : Array Oper) (a : Act) : ∀ is, putsA ops (atFirst ops a) a is = a
  | [] => rfl
  | i :: is => by
    rw [putsA, putsA_first ops a is]
    unfold atFirst
    cases h : dstAt ops i with
    | none => rfl
    | some d =>
      simp only [Act.put]
      have : a.tmps.setIfInBounds d (a.tmps.getD d undef) = a.tmps := by
        apply Array.ext
        · simp
        · intro k h1 h2
          rw [Array.getElem_setIfInBounds]
          split
          · rename_i e; subst e; simp [h2]
          · rfl
      rw [this]

/-- The same act, the slots filled in the order of the operations. -/
def putL (u : Nat → Value) : List Oper → Nat → Act → Act
  | [], _, a => a
  | o :: os, i, a => putL u os (i + 1) (a.put o.dst (u i))
theorem putL_put (u : Nat → Value) (d : Option Tmp) (v : Value) : ∀ (os : List Oper) (i : Nat) (a : Act), (∀ o ∈ os, ∀ t, d = some t → o.dst ≠ some t) → putL u os i (a.put d v) = (putL u os i a).put d v
  | [], _, _, _ => rfl
  | o :: os, i, a, h => by
    rw [putL, putL, Act.put_comm a v (u i) (fun t ht e => h o (List.mem_cons_self ..) t ht e), putL_put u d v os (i + 1) _ (fun o' ho' => h o' (List.mem_cons_of_mem _ ho'))]
theorem putL_putsA {ops : Array Oper} (hp : apartB ops = true) (u : Nat → Value) (a : Act) : ∀ (k i : Nat), i + k = ops.size → putL u (ops.toList.drop i) i a = putsA ops u a (List.range' i k)
  | 0, i, h => by
    rw [List.drop_of_length_le (by simp; omega)]; rfl
  | k + 1, i, h => by
    have hi : i < ops.size := by omega
    have hd : ops.toList.drop i = ops[i] :: ops.toList.drop (i + 1) := by
      rw [List.drop_eq_getElem_cons (by simpa using hi)]; simp
    have hds : dstAt ops i = ops[i].dst := by unfold dstAt; rw [Array.getElem?_eq_getElem hi]; rfl
    rw [hd, putL, List.range'_succ, putsA, ← putL_putsA hp u a k (i + 1) (by omega), hds]
    refine putL_put u _ _ _ _ _ fun o ho t ht => ?_
    obtain ⟨j, hj, rfl⟩ := List.mem_iff_getElem.1 ho
    rw [List.getElem_drop]
    have hj' : i + 1 + j < ops.size := by rw [List.length_drop] at hj; simp at hj; omega
    have h2 := apart_of hp hi hj' (by omega) t (by rw [hds]; exact ht)
    unfold dstAt at h2
    rw [Array.getElem?_eq_getElem hj'] at h2
    simpa using h2
/-- The act in a region whose operations' slots hold u. -/
def frameL (ops : Array Oper) (u : Nat → Value) (a : Act) : Act := putL u ops.toList 0 a

/-- What an operation of a region has to show: a value that is reckoned from its dependencies' values; or a value that owns its memory. -/
inductive Fact : Type 1 where
  | val (ds : List Nat) (f : (Nat → Value) → Value)
  | own {α : Type} (E : EP α) (x : α)
  | dep {α : Type} (d : Nat) (E : Value → EP α) (x : α)
  | depl {α : Type} (ds : List Nat) (E : (Nat → Value) → EP α) (x : α)
  | any
/-- The values of the dependencies alone. -/
def only (ds : List Nat) (u : Nat → Value) : Nat → Value := fun k => if ds.contains k then u k else undef
def Fact.deps (j : Nat) : Fact → List Nat
  | .val ds _ => j :: ds
  | .own .. => [j]
  | .dep d .. => [j, d]
  | .depl ds .. => j :: ds
  | .any => []
def Fact.holds (j : Nat) (u : Nat → Value) (β : Nat → List Nat) (w : World) : Fact → Prop
  | .val ds f => u j = f (only ds u)
  | .own E x => E w (u j) x (β j)
  | .dep d E x => E (u d) w (u j) x (β j)
  | .depl ds E x => E (only ds u) w (u j) x (β j)
  | .any => True
/-- The values that own their memory keep it when memory is made, and lie in blocks of their own. -/
def Fact.Ok : Fact → Prop
  | .own E _ => ∃ base, EP.Ok base E
  | .dep _ E _ => ∀ v, ∃ base, EP.Ok base (E v)
  | .depl _ E _ => ∀ v, ∃ base, EP.Ok base (E v)
  | _ => True

theorem Fact.cong {j : Nat} {u u' : Nat → Value} {β β' : Nat → List Nat} {w : World} (F : Fact) (h : ∀ k ∈ F.deps j, u k = u' k ∧ β k = β' k) (hF : F.holds j u β w) : F.holds j u' β' w := by
  cases F with
  | val ds f =>
    have h1 := h j (by simp [Fact.deps])
    have h2 : only ds u = only ds u' := by
      funext k
      unfold only
      split
      · rename_i hk
        exact (h k (by simp [Fact.deps]; exact .inr (by simpa using hk))).1
      · rfl
    show u' j = f (only ds u')
    rw [← h1.1, ← h2]
    exact hF
  | own E x =>
    have h1 := h j (by simp [Fact.deps])
    show E w (u' j) x (β' j)
    rw [← h1.1, ← h1.2]
    exact hF
  | dep d E x =>
    have h1 := h j (by simp [Fact.deps])
    have h2 := h d (by simp [Fact.deps])
    show E (u' d) w (u' j) x (β' j)
    rw [← h1.1, ← h1.2, ← h2.1]
    exact hF
  | depl ds E x =>
    have h1 := h j (by simp [Fact.deps])
    have h2 : only ds u = only ds u' := by
      funext k
      unfold only
      split
      · rename_i hk
        exact (h k (by simp [Fact.deps]; exact .inr (by simpa using hk))).1
      · rfl
    show E (only ds u') w (u' j) x (β' j)
    rw [← h1.1, ← h1.2, ← h2]
    exact hF
  | any => trivial
theorem Fact.later {j : Nat} {u : Nat → Value} {β : Nat → List Nat} {w w' : World} (F : Fact) (hok : F.Ok) (hb : Below w.heap.size w w') (hF : F.holds j u β w) : F.holds j u β w' := by
  cases F with
  | val ds f => exact hF
  | own E x => obtain ⟨base, hE⟩ := hok; exact hE.later hF hb
  | dep d E x => obtain ⟨base, hE⟩ := hok (u d); exact hE.later hF hb
  | depl ds E x => obtain ⟨base, hE⟩ := hok (only ds u); exact hE.later hF hb
  | any => trivial

section
variable {P : Program} {ops : Array Oper} {Q : Exit → Act → World → Prop}

/-- What operation j may ask of the operations ahead of it: those that its edges name, and what their facts speak of. -/
def dirAt (o : Oper) : List Nat := (o.after.toList.filter (Region.binds .any)).map (·.on)
def behind (ops : Array Oper) (i : Nat) : List Nat := match ops[i]? with | some o => (o.after.toList.filter (Region.binds .any)).map (·.on) | none => []
/-- What stands ahead by an edge, by two and by three. -/
def needAt (ops : Array Oper) (o : Oper) : List Nat := dirAt o ++ ((dirAt o).flatMap (behind ops) ++ ((dirAt o).flatMap (behind ops)).flatMap (behind ops))
def factAt (facts : List Fact) (j : Nat) : Fact := facts.getD j .any
def depsB (ops : Array Oper) (facts : List Fact) : Bool :=
  (List.range ops.size).all fun j => ((factAt facts j).deps j).all fun k => k == j || match ops[j]? with
    | some o => o.after.any fun e => Region.binds .any e && (k == e.on || ((factAt facts e.on).deps e.on).contains k)
    | none => false
/-- Each edge that binds leads to an operation that stands ahead. -/
def aheadB (ops : Array Oper) : Bool :=
  (List.range ops.size).all fun j => match ops[j]? with | some o => o.after.all fun e => !Region.binds .any e || decide (e.on < j) | none => true
/-- What stands behind all the others: by its edges, and theirs. -/
def closed (ops : Array Oper) : Nat → List Nat → List Nat
  | 0, l => l
  | n + 1, l => closed ops n (l ++ (l.flatMap fun i => match ops[i]? with | some o => (o.after.toList.filter (Region.binds .any)).map (·.on) | none => []).eraseDups.filter fun k => !l.contains k)
def lastB (ops : Array Oper) : Bool := (List.range (ops.size - 1)).all fun k => (closed ops ops.size (behind ops (ops.size - 1))).contains k

/-- The facts of some operations, one behind the other. -/
def Have (facts : List Fact) (u : Nat → Value) (β : Nat → List Nat) (w : World) : List Nat → Prop
  | [] => True
  | k :: ks => (factAt facts k).holds k u β w ∧ Have facts u β w ks
theorem Have.of {facts : List Fact} {u : Nat → Value} {β : Nat → List Nat} {w : World} : ∀ {ks : List Nat}, (∀ k ∈ ks, (factAt facts k).holds k u β w) → Have facts u β w ks
  | [], _ => trivial
  | k :: _, h => ⟨h k (List.mem_cons_self ..), Have.of fun j hj => h j (List.mem_cons_of_mem _ hj)⟩

theorem Have.get {facts : List Fact} {u : Nat → Value} {β : Nat → List Nat} {w : World} {k : Nat} : ∀ {ks : List Nat}, Have facts u β w ks → ks.contains k = true → (factAt facts k).holds k u β w
  | [], _, h => by simp at h
  | j :: ks, hh, h => by
    by_cases e : k = j
    · subst e; exact hh.1
    · exact Have.get hh.2 (by simpa [e] using h)

/-- The act in a region whose operations' slots hold u. -/
def frameOf (ops : Array Oper) (u : Nat → Value) (a : Act) : Act := putsA ops u a (List.range ops.size)
theorem frameL_eq {ops : Array Oper} (hp : apartB ops = true) (u : Nat → Value) (a : Act) : frameL ops u a = frameOf ops u a := by
  unfold frameL frameOf
  rw [List.range_eq_range', ← putL_putsA hp u a ops.size 0 (by omega)]
  simp

/-- An operation of a region that draws its order, in a world that has the base world's blocks; K is what comes behind. -/
def FreeStep (P : Program) (ops : Array Oper) (Q : Exit → Act → World → Prop) (facts : List Fact) (a0 : Act) (w0 : World) (i : Nat) (o : Oper) : Prop :=
  ∀ (u : Nat → Value) (β : Nat → List Nat) (w : World), Below w0.heap.size w0 w → Have facts u β w (needAt ops o) → ∀ fr : Act, fr = frameL ops u a0 →
    ∀ K : Act → World → Prop, (∀ (x : Value) (bs : List Nat) (w' : World), Below w.heap.size w w' → (∀ b ∈ bs, w.heap.size ≤ b ∧ b < w'.heap.size) → (factAt facts i).holds i (upd u i x) (upd β i bs) w' → K (fr.put o.dst x) w') →
      if Region.wanted o (yielded ops fr.tmps) = true then Oper.wp P o fr w K Q else K (fr.put o.dst undef) w
/-- One step for each operation of a list. -/
def Steps (S : Nat → Oper → Prop) : Nat → List Oper → Prop
  | _, [] => True
  | i, o :: os => S i o ∧ Steps S (i + 1) os
theorem Steps.cons {S : Nat → Oper → Prop} {i : Nat} {o : Oper} {os : List Oper} (h : S i o) (hs : Steps S (i + 1) os) : Steps S i (o :: os) := ⟨h, hs⟩
theorem Steps.nil {S : Nat → Oper → Prop} {i : Nat} : Steps S i [] := trivial
theorem Steps.at_ {S : Nat → Oper → Prop} : ∀ {os : List Oper} {i j : Nat} {o : Oper}, Steps S i os → os[j]? = some o → S (i + j) o
  | [], _, _, _, _, h => by simp at h
  | o' :: os, i, 0, o, h, hj => by simp at hj; subst hj; exact h.1
  | o' :: os, i, j + 1, o, h, hj => by
    have := Steps.at_ (j := j) h.2 (by simpa using hj)
    rw [show i + (j + 1) = i + 1 + j from by omega]
    exact this

theorem Steps.all {S : Nat → Oper → Prop} {ops : Array Oper} (h : Steps S 0 ops.toList) : ∀ i o, ops[i]? = some o → S i o := fun i o ho => by
  have := h.at_ (j := i) (o := o) (by simpa using ho)
  rwa [Nat.zero_add] at this
theorem FreeStep.calm {facts : List Fact} {a0 : Act} {w0 : World} {i : Nat} {o : Oper} (ds : List Nat) (f : (Nat → Value) → Value) (hf : factAt facts i = .val ds f) (hd : ds.contains i = false)
    (h : ∀ (u : Nat → Value) (β : Nat → List Nat) (w : World), Below w0.heap.size w0 w → Have facts u β w (needAt ops o) → ∀ fr : Act, fr = frameL ops u a0 → ∀ K : Act → World → Prop, (∀ w', Below w.heap.size w w' → K (fr.put o.dst (f (only ds u))) w') →
      if Region.wanted o (yielded ops fr.tmps) = true then Oper.wp P o fr w K Q else K (fr.put o.dst undef) w) : FreeStep P ops Q facts a0 w0 i o := by
  intro u β w hb hn fr hfr K hK
  refine h u β w hb hn fr hfr K fun w' hw' => hK _ [] w' hw' (fun b hb => by cases hb) ?_
  rw [hf]
  show upd u i _ i = _
  rw [upd_same]
  congr 1
  funext k
  unfold only
  split
  · rename_i hk
    rw [upd_ne]
    intro e
    subst e
    rw [hd] at hk
    cases hk
  · rfl
theorem FreeStep.val {facts : List Fact} {a0 : Act} {w0 : World} {i : Nat} {o : Oper} (ds : List Nat) (f : (Nat → Value) → Value) (hf : factAt facts i = .val ds f) (hd : ds.contains i = false)
    (h : ∀ (u : Nat → Value) (β : Nat → List Nat) (w : World), Below w0.heap.size w0 w → Have facts u β w (needAt ops o) → ∀ fr : Act, fr = frameL ops u a0 → ∀ K : Act → World → Prop, K (fr.put o.dst (f (only ds u))) w →
      if Region.wanted o (yielded ops fr.tmps) = true then Oper.wp P o fr w K Q else K (fr.put o.dst undef) w) : FreeStep P ops Q facts a0 w0 i o :=
  FreeStep.calm ds f hf hd fun u β w hb hn fr hfr K hK => h u β w hb hn fr hfr K (hK w (Below.refl _ _))
theorem FreeStep.own {α : Type} {facts : List Fact} {a0 : Act} {w0 : World} {i : Nat} {o : Oper} {E : EP α} {x : α} {base : Nat} (hf : factAt facts i = .own E x) (hE : EP.Ok base E)
    (h : ∀ (u : Nat → Value) (β : Nat → List Nat) (w : World), Below w0.heap.size w0 w → Have facts u β w (needAt ops o) → ∀ fr : Act, fr = frameL ops u a0 → ∀ K : Act → World → Prop,
      (∀ (v : Value) (bs : List Nat) (w' : World), Below w.heap.size w w' → E w' v x bs → (∀ b ∈ bs, w.heap.size ≤ b) → K (fr.put o.dst v) w') →
      if Region.wanted o (yielded ops fr.tmps) = true then Oper.wp P o fr w K Q else K (fr.put o.dst undef) w) : FreeStep P ops Q facts a0 w0 i o := by
  intro u β w hb hn fr hfr K hK
  refine h u β w hb hn fr hfr K fun v bs w' hb' he hlo => hK v bs w' hb' (fun b hbb => ⟨hlo b hbb, (hE.lt he b hbb).2⟩) ?_
  rw [hf]
  show E w' (upd u i v i) x (upd β i bs i)
  rw [upd_same, upd_same]
  exact he

theorem FreeStep.dep {α : Type} {facts : List Fact} {a0 : Act} {w0 : World} {i d : Nat} {o : Oper} {E : Value → EP α} {x : α} {base : Nat} (hf : factAt facts i = .dep d E x) (hd : d ≠ i) (hE : ∀ v, EP.Ok base (E v))
    (h : ∀ (u : Nat → Value) (β : Nat → List Nat) (w : World), Below w0.heap.size w0 w → Have facts u β w (needAt ops o) → ∀ fr : Act, fr = frameL ops u a0 → ∀ K : Act → World → Prop,
      (∀ (v : Value) (bs : List Nat) (w' : World), Below w.heap.size w w' → E (u d) w' v x bs → (∀ b ∈ bs, w.heap.size ≤ b) → K (fr.put o.dst v) w') →
      if Region.wanted o (yielded ops fr.tmps) = true then Oper.wp P o fr w K Q else K (fr.put o.dst undef) w) : FreeStep P ops Q facts a0 w0 i o := by
  intro u β w hb hn fr hfr K hK
  refine h u β w hb hn fr hfr K fun v bs w' hb' he hlo => hK v bs w' hb' (fun b hbb => ⟨hlo b hbb, ((hE _).lt he b hbb).2⟩) ?_
  rw [hf]
  show E (upd u i v d) w' (upd u i v i) x (upd β i bs i)
  rw [upd_same, upd_same, upd_ne u v hd]
  exact he
theorem FreeStep.depl {α : Type} {facts : List Fact} {a0 : Act} {w0 : World} {i : Nat} {o : Oper} {ds : List Nat} {E : (Nat → Value) → EP α} {x : α} {base : Nat} (hf : factAt facts i = .depl ds E x) (hd : ds.contains i = false) (hE : ∀ v, EP.Ok base (E v))
    (h : ∀ (u : Nat → Value) (β : Nat → List Nat) (w : World), Below w0.heap.size w0 w → Have facts u β w (needAt ops o) → ∀ fr : Act, fr = frameL ops u a0 → ∀ K : Act → World → Prop,
      (∀ (v : Value) (bs : List Nat) (w' : World), Below w.heap.size w w' → E (only ds u) w' v x bs → (∀ b ∈ bs, w.heap.size ≤ b) → K (fr.put o.dst v) w') →
      if Region.wanted o (yielded ops fr.tmps) = true then Oper.wp P o fr w K Q else K (fr.put o.dst undef) w) : FreeStep P ops Q facts a0 w0 i o := by
  intro u β w hb hn fr hfr K hK
  refine h u β w hb hn fr hfr K fun v bs w' hb' he hlo => hK v bs w' hb' (fun b hbb => ⟨hlo b hbb, ((hE _).lt he b hbb).2⟩) ?_
  have ho : only ds (upd u i v) = only ds u := by
    funext k
    unfold only
    split
    · rename_i hk
      rw [upd_ne]
      intro e
      subst e
      rw [hd] at hk
      cases hk
    · rfl
  rw [hf]
  show E (only ds (upd u i v)) w' (upd u i v i) x (upd β i bs i)
  rw [upd_same, upd_same, ho]
  exact he

/-- The state that goes through the region. -/
structure Mid (ops : Array Oper) (facts : List Fact) (stop : Nat → Bool) (always : List Nat) (w0 : World) (listed : Array Bool) (u : Nat → Value) (β : Nat → List Nat) (w1 : World) : Prop where
  size : listed.size = ops.size
  closed : ∀ i, listed.getD i false = true → ∀ k ∈ (factAt facts i).deps i, listed.getD k false = true
  after : ∀ i o, ops[i]? = some o → listed.getD i false = true → ∀ e ∈ o.after, Region.binds .any e = true → listed.getD e.on false = true
  goes : ∀ i, listed.getD i false = true → stop i = false
  has : ∀ k ∈ always, listed.getD k false = true
  below : Below w0.heap.size w0 w1
  have_ : ∀ i, listed.getD i false = true → (factAt facts i).holds i u β w1
  apart : ∀ i j, listed.getD i false = true → listed.getD j false = true → i ≠ j → ∀ b ∈ β i, b ∉ β j
  bound : ∀ i, listed.getD i false = true → ∀ b ∈ β i, w0.heap.size ≤ b ∧ b < w1.heap.size

/-- The walk through the region: up to the operations for which 'stop' holds. -/
theorem wpAny_mid {a : Act} {w : World} (facts : List Fact) (stop : Nat → Bool) (always : List Nat) (hp : apartB ops = true) (hfw : aheadB ops = true) (hdeps : depsB ops facts = true) (hok : ∀ F ∈ facts, F.Ok)
    (hstep : ∀ i o, ops[i]? = some o → (stop i = false ∧ FreeStep P ops Q facts a w i o) ∨ ∀ (listed : Array Bool) (u : Nat → Value) (β : Nat → List Nat) (w1 : World) (fuel : Nat), Mid ops facts stop always w listed u β w1 → ((List.range ops.size).filter (fun i => !listed.getD i true)).length ≤ fuel + 1 → listed.getD i true = false →
      (∀ e ∈ o.after, Region.binds .any e = true → listed.getD e.on false = true) → wpOp P ops Q i (wpAny P .any ops Q fuel (listed.setIfInBounds i true)) (frameOf ops u a) w1)
    (hend : ∀ (listed : Array Bool) (u : Nat → Value) (β : Nat → List Nat) (w' : World), (∀ i, i < ops.size → listed.getD i false = true) → Mid ops facts stop always w listed u β w' → Q .normal (frameOf ops u a) w') :
    ∀ (fuel : Nat) (listed : Array Bool) (u : Nat → Value) (β : Nat → List Nat) (w1 : World), Mid ops facts stop always w listed u β w1 →
      ((List.range ops.size).filter (fun i => !listed.getD i true)).length ≤ fuel →
      wpAny P .any ops Q fuel listed (frameOf ops u a) w1 := by
  have hFok : ∀ j, (factAt facts j).Ok := by
    intro j
    unfold factAt
    rw [List.getD_eq_getElem?_getD]
    cases h : facts[j]? with
    | none => trivial
    | some F => exact hok F (List.mem_of_getElem? h)
  have hd1 : ∀ {j k : Nat}, j < ops.size → k ∈ (factAt facts j).deps j → k = j ∨ ∃ o, ops[j]? = some o ∧ ∃ e ∈ o.after, Region.binds .any e = true ∧ (k = e.on ∨ k ∈ (factAt facts e.on).deps e.on) := by
    intro j k hj hk
    unfold depsB at hdeps
    rw [List.all_eq_true] at hdeps
    have h := hdeps j (List.mem_range.2 hj)
    rw [List.all_eq_true] at h
    have h := h k hk
    rw [Bool.or_eq_true] at h
    rcases h with h | h
    · exact .inl (by simpa using h)
    · right
      cases ho : ops[j]? with
      | none => rw [ho] at h; cases h
      | some o =>
        rw [ho] at h
        refine ⟨o, rfl, ?_⟩
        obtain ⟨e, he, hb⟩ := Array.any_eq_true'.1 h
        simp only [Bool.and_eq_true, Bool.or_eq_true, beq_iff_eq] at hb
        refine ⟨e, he, hb.1, ?_⟩
        rcases hb.2 with h2 | h2
        · exact .inl h2
        · exact .inr (by simpa using h2)
  have fw : ∀ {j : Nat} {o : Oper}, ops[j]? = some o → ∀ {e : Edge}, e ∈ o.after → Region.binds .any e = true → e.on < j := by
    intro j o ho e he hbnd
    unfold aheadB at hfw
    rw [List.all_eq_true] at hfw
    have h := hfw j (List.mem_range.2 (Array.getElem?_eq_some_iff.1 ho).1)
    rw [ho] at h
    have h := (Array.all_eq_true_iff_forall_mem.1 h) e he
    simpa [hbnd] using h
  have nothing : ∀ (listed : Array Bool), listed.size = ops.size → (∀ i, i < ops.size → listed.getD i false = true) → Region.ready .any ops listed = [] := by
    intro listed hsz hall
    unfold Region.ready
    rw [List.filter_eq_nil_iff]
    intro i hi
    have := hall i (List.mem_range.1 hi)
    have hi' : i < listed.size := by rw [hsz]; exact List.mem_range.1 hi
    simp [hi'] at this ⊢
    simp [this]
  have main : ∀ (fuel : Nat) (listed : Array Bool) (u : Nat → Value) (β : Nat → List Nat) (w1 : World), Mid ops facts stop always w listed u β w1 →
      ((List.range ops.size).filter (fun i => !listed.getD i true)).length ≤ fuel →
      wpAny P .any ops Q fuel listed (frameOf ops u a) w1 := by
    intro fuel
    induction fuel with
    | zero =>
      intro listed u β w1 hM hlen
      have hsz := hM.size
      have hall : ∀ i, i < ops.size → listed.getD i false = true := by
        intro i hi
        have h0 : (List.range ops.size).filter (fun i => !listed.getD i true) = [] := List.length_eq_zero_iff.1 (Nat.le_zero.1 hlen)
        rw [List.filter_eq_nil_iff] at h0
        have := h0 i (List.mem_range.2 hi)
        simp at this
        have hi' : i < listed.size := by omega
        simp [hi'] at this ⊢
        exact this
      exact ⟨nothing listed hsz hall, hend listed u β w1 hall hM⟩
    | succ fuel ih =>
      intro listed u β w1 hM hlen
      obtain ⟨hsz, hcl, hafc, hgo, hhas, hb, hR, hdis, hbnd⟩ := id hM
      refine ⟨fun h0 => ?_, fun i hi => ?_⟩
      · have hall : ∀ i, i < ops.size → listed.getD i false = true := by
          intro i
          induction i using Nat.strongRecOn with
          | ind i ihi =>
            intro hi
            unfold Region.ready at h0
            rw [List.filter_eq_nil_iff] at h0
            have h1 := h0 i (List.mem_range.2 hi)
            cases hli : listed.getD i false with
            | true => rfl
            | false =>
              exfalso
              apply h1
              have hi' : i < listed.size := by omega
              have hoi : ops[i]? = some ops[i] := Array.getElem?_eq_getElem hi
              rw [hoi]
              simp only [Option.map_some, Option.getD_some, Bool.and_eq_true, Bool.not_eq_true']
              refine ⟨by simp [hi'] at hli ⊢; exact hli, ?_⟩
              rw [Array.all_eq_true_iff_forall_mem]
              intro e he
              cases hbe : Region.binds .any e with
              | false => rfl
              | true =>
              rw [Bool.or_eq_true]
              refine .inr ?_
              have hlt := fw hoi he hbe
              exact ihi e.on hlt (by omega)
        exact hend listed u β w1 hall hM
      · unfold Region.ready at hi
        rw [List.mem_filter, List.mem_range] at hi
        obtain ⟨hin, hi⟩ := hi
        have hi' : i < listed.size := by omega
        have hoi : ops[i]? = some ops[i] := Array.getElem?_eq_getElem hin
        rw [hoi] at hi
        simp only [Option.map_some, Option.getD_some, Bool.and_eq_true, Bool.not_eq_true'] at hi
        obtain ⟨hli, haf⟩ := hi
        rw [Array.all_eq_true_iff_forall_mem] at haf
        have hli' : listed.getD i false = false := by simp [hi'] at hli ⊢; exact hli
        have hafter : ∀ e ∈ ops[i].after, Region.binds .any e = true → listed.getD e.on false = true := by
          intro e he hbi
          have := haf e he
          rw [hbi] at this
          simpa using this
        have hget : ∀ k, (listed.setIfInBounds i true).getD k false = true ↔ k = i ∨ listed.getD k false = true := by
          intro k
          by_cases e : k = i
          · subst e; simp [hi']
          · simp only [Array.getD_eq_getD_getElem?, Array.getElem?_setIfInBounds_ne (fun e' => e e'.symm), e, false_or]
        rcases hstep i _ hoi with ⟨hgi, hstep⟩ | hstep
        case inr => exact hstep listed u β w1 fuel hM hlen hli hafter
        refine wpOp_step hoi (fun K hK => ?_)
        refine hstep u β w1 hb (Have.of ?_) _ (frameL_eq hp u a).symm K (fun x bs w2 hB hbs hRi => hK _ _ ?_)
        · have hdir : ∀ k ∈ dirAt ops[i], listed.getD k false = true := by
            intro k hk
            unfold dirAt at hk
            rw [List.mem_map] at hk
            obtain ⟨e, he, rfl⟩ := hk
            rw [List.mem_filter] at he
            exact hafter e (by simpa using he.1) he.2
          have hbeh : ∀ (l : List Nat), (∀ k ∈ l, listed.getD k false = true) → ∀ k ∈ l.flatMap (behind ops), listed.getD k false = true := by
            intro l hl k hk
            rw [List.mem_flatMap] at hk
            obtain ⟨j, hj, hk⟩ := hk
            unfold behind at hk
            cases hoj : ops[j]? with
            | none => rw [hoj] at hk; cases hk
            | some oj =>
              rw [hoj] at hk
              rw [List.mem_map] at hk
              obtain ⟨e, he, rfl⟩ := hk
              rw [List.mem_filter] at he
              exact hafc j oj hoj (hl j hj) e (by simpa using he.1) he.2
          intro k hk
          unfold needAt at hk
          rw [List.mem_append, List.mem_append] at hk
          rcases hk with hk | hk | hk
          · exact hR _ (hdir k hk)
          · exact hR _ (hbeh _ hdir k hk)
          · exact hR _ (hbeh _ (hbeh _ hdir) k hk)
        · have hd : ops[i].dst = dstAt ops i := by unfold dstAt; rw [hoi]; rfl
          unfold frameOf
          rw [hd, putsA_put hp u a x _ (List.mem_range.2 hin) List.nodup_range (fun j hj => List.mem_range.1 hj)]
          have hb2 : Below w.heap.size w w2 := hb.trans (hB.mono hb.size)
          have hkeep : ∀ j, listed.getD j false = true → j ≠ i := fun j hj e => by rw [e, hli'] at hj; cases hj
          refine ih (listed.setIfInBounds i true) (upd u i x) (upd β i bs) w2 ⟨by simpa using hsz, ?_, ?_, ?_, fun k hk => (hget k).2 (.inr (hhas k hk)), hb2, ?_, ?_, ?_⟩ ?_
          · intro j hj k hk
            rw [hget] at hj ⊢
            rcases hj with rfl | hj
            · rcases hd1 hin hk with rfl | ⟨o, ho, e, he, hbi, hke⟩
              · exact .inl rfl
              · rw [hoi] at ho
                cases ho
                have hle := hafter e he hbi
                rcases hke with rfl | hke
                · exact .inr hle
                · exact .inr (hcl _ hle _ hke)
            · exact .inr (hcl j hj k hk)
          · intro j oj hoj hj e he hbi
            rw [hget] at hj ⊢
            rcases hj with rfl | hj
            · rw [hoi] at hoj
              cases hoj
              exact .inr (hafter e he hbi)
            · exact .inr (hafc j oj hoj hj e he hbi)
          · intro j hj
            rw [hget] at hj
            rcases hj with rfl | hj
            · exact hgi
            · exact hgo j hj
          · intro j hj
            rw [hget] at hj
            rcases hj with rfl | hj
            · exact hRi
            · refine Fact.cong (u := u) (β := β) _ (fun k hk => ?_) (Fact.later _ (hFok j) hB (hR j hj))
              have hne := hkeep k (hcl j hj k hk)
              rw [upd_ne u x hne, upd_ne β bs hne]
              exact ⟨rfl, rfl⟩
          · intro j k hj hk hne b hbj hbk
            rw [hget] at hj hk
            rcases hj with rfl | hj
            · rcases hk with rfl | hk
              · exact hne rfl
              · rw [upd_same] at hbj
                rw [upd_ne β bs (hkeep k hk)] at hbk
                have h1 := hbs b hbj
                have h2 := hbnd k hk b hbk
                omega
            · rcases hk with rfl | hk
              · rw [upd_same] at hbk
                rw [upd_ne β bs (hkeep j hj)] at hbj
                have h1 := hbs b hbk
                have h2 := hbnd j hj b hbj
                omega
              · rw [upd_ne β bs (hkeep j hj)] at hbj
                rw [upd_ne β bs (hkeep k hk)] at hbk
                exact hdis j k hj hk hne b hbj hbk
          · intro j hj b hbj
            rw [hget] at hj
            rcases hj with rfl | hj
            · rw [upd_same] at hbj
              have h1 := hbs b hbj
              have := hb.size
              omega
            · rw [upd_ne β bs (hkeep j hj)] at hbj
              have h1 := hbnd j hj b hbj
              have := hB.size
              omega
          · have h1 : ((List.range ops.size).filter (fun k => !(listed.setIfInBounds i true).getD k true)) = ((List.range ops.size).filter (fun k => !listed.getD k true)).filter (fun k => k != i) := by
              rw [List.filter_filter]
              refine List.filter_congr fun k hk => ?_
              have hkn : k < listed.size := by have := List.mem_range.1 hk; omega
              by_cases e : k = i
              · subst e; simp [hkn]
              · simp only [Array.getD_eq_getD_getElem?, Array.getElem?_setIfInBounds_ne (fun e' => e e'.symm)]
                simp [e]
            rw [h1]
            have hmem : i ∈ (List.range ops.size).filter (fun k => !listed.getD k true) := by
              rw [List.mem_filter]; exact ⟨List.mem_range.2 hin, by simp [hli]⟩
            have hlt : (((List.range ops.size).filter (fun k => !listed.getD k true)).filter (fun k => k != i)).length < ((List.range ops.size).filter (fun k => !listed.getD k true)).length :=
              List.length_filter_lt_length_iff_exists.2 ⟨i, hmem, by simp⟩
            omega
  exact main

/-- From the beginning of the region. -/
theorem wpAny_free {a : Act} {w : World} (facts : List Fact) (stop : Nat → Bool) (always : List Nat) (halw : ∀ k ∈ always, (Array.replicate ops.size false).getD k false = true) (hp : apartB ops = true) (hfw : aheadB ops = true) (hdeps : depsB ops facts = true) (hok : ∀ F ∈ facts, F.Ok)
    (hstep : ∀ i o, ops[i]? = some o → (stop i = false ∧ FreeStep P ops Q facts a w i o) ∨ ∀ (listed : Array Bool) (u : Nat → Value) (β : Nat → List Nat) (w1 : World) (fuel : Nat), Mid ops facts stop always w listed u β w1 → ((List.range ops.size).filter (fun i => !listed.getD i true)).length ≤ fuel + 1 → listed.getD i true = false →
      (∀ e ∈ o.after, Region.binds .any e = true → listed.getD e.on false = true) → wpOp P ops Q i (wpAny P .any ops Q fuel (listed.setIfInBounds i true)) (frameOf ops u a) w1)
    (hend : ∀ (listed : Array Bool) (u : Nat → Value) (β : Nat → List Nat) (w' : World), (∀ i, i < ops.size → listed.getD i false = true) → Mid ops facts stop always w listed u β w' → Q .normal (frameOf ops u a) w') :
    wpAny P .any ops Q ops.size (Array.replicate ops.size false) a w.drew := by
  have none : ∀ i, ¬ (Array.replicate ops.size false).getD i false = true := by
    intro i h
    by_cases hi : i < ops.size <;> simp [hi] at h
  have h := wpAny_mid facts stop always hp hfw hdeps hok hstep hend ops.size (Array.replicate ops.size false) (atFirst ops a) (fun _ => []) w.drew ⟨by simp, fun i hi => absurd hi (none i), fun i _ _ hi => absurd hi (none i), fun i hi => absurd hi (none i), halw, ⟨rfl, rfl, rfl, Nat.le_refl _, fun _ _ => rfl⟩, fun i hi => absurd hi (none i), fun i j hi => absurd hi (none i), fun i hi => absurd hi (none i)⟩
    (Nat.le_trans (List.length_filter_le _ _) (by simp))
  unfold frameOf at h
  rw [putsA_first] at h
  exact h

theorem StepsOk.nil : (∀ F ∈ ([] : List Fact), F.Ok) := fun F h => by cases h
theorem StepsOk.cons {F : Fact} {Fs : List Fact} (h : F.Ok) (hs : ∀ F ∈ Fs, F.Ok) : ∀ G ∈ F :: Fs, G.Ok := fun G hG => by
  rcases List.mem_cons.1 hG with rfl | hG
  · exact h
  · exact hs G hG

/-- A region that draws its order, where each operation reads, reckons or makes memory of its own: whatever the order, in the end each has what it has. -/
theorem wp_region_free {id : Nat} {a : Act} {w : World} (hm : P.follows .mixedOrders = true) (facts : List Fact) (hp : apartB ops = true) (hfw : aheadB ops = true) (hdeps : depsB ops facts = true) (hok : ∀ F ∈ facts, F.Ok)
    (hstep : Steps (FreeStep P ops Q facts a w) 0 ops.toList)
    (hend : ∀ (u : Nat → Value) (β : Nat → List Nat) (w' : World), Below w.heap.size w w' → Have facts u β w' (List.range ops.size) →
      (∀ i j, i < ops.size → j < ops.size → i ≠ j → ∀ b ∈ β i, b ∉ β j) → (∀ i, i < ops.size → ∀ b ∈ β i, w.heap.size ≤ b ∧ b < w'.heap.size) → Q .normal (frameOf ops u a) w') :
    (Code.region id ops true).wp P Q a w := by
  refine wp_region_any hm (wpAny_free facts (fun _ => false) [] (fun k hk => by cases hk) hp hfw hdeps hok (fun i o ho => .inl ⟨rfl, ?_⟩) (fun listed u β w' hall hM => hend u β w' hM.below (Have.of fun k hk => hM.have_ k (hall k (List.mem_range.1 hk)))
    (fun i j hi hj => hM.apart i j (hall i hi) (hall j hj)) (fun i hi => hM.bound i (hall i hi))))
  have := hstep.at_ (j := i) (o := o) (by simpa using ho)
  rwa [Nat.zero_add] at this

/-- One step for each operation of a list but the last one, which is something else. -/
def StepsL (S : Nat → Oper → Prop) (L : Oper → Prop) : Nat → List Oper → Prop
  | _, [] => True
  | _, [o] => L o
  | i, o :: o' :: os => S i o ∧ StepsL S L (i + 1) (o' :: os)
theorem StepsL.cons {S : Nat → Oper → Prop} {L : Oper → Prop} {i : Nat} {o o' : Oper} {os : List Oper} (h : S i o) (hs : StepsL S L (i + 1) (o' :: os)) : StepsL S L i (o :: o' :: os) := ⟨h, hs⟩
theorem StepsL.at_ {S : Nat → Oper → Prop} {L : Oper → Prop} : ∀ {os : List Oper} {i j : Nat} {o : Oper}, StepsL S L i os → os[j]? = some o → (j + 1 < os.length → S (i + j) o) ∧ (j + 1 = os.length → L o)
  | [], _, _, _, _, h => by simp at h
  | [o'], i, 0, o, h, hj => by simp at hj; subst hj; exact ⟨fun h => by simp at h, fun _ => h⟩
  | [o'], i, j + 1, o, h, hj => by simp at hj
  | o' :: o'' :: os, i, 0, o, h, hj => by simp at hj; subst hj; exact ⟨fun _ => h.1, fun h => by simp at h⟩
  | o' :: o'' :: os, i, j + 1, o, h, hj => by
    have := StepsL.at_ (j := j) h.2 (by simpa using hj)
    rw [show i + (j + 1) = i + 1 + j from by omega]
    exact ⟨fun hl => this.1 (by simpa using hl), fun hl => this.2 (by simpa using hl)⟩

/-- The operation that stands behind all the others, and may do what it likes. -/
def LastStep (P : Program) (ops : Array Oper) (Q : Exit → Act → World → Prop) (facts : List Fact) (a : Act) (w : World) (o : Oper) : Prop :=
  ∀ (u : Nat → Value) (β : Nat → List Nat) (w' : World), Below w.heap.size w w' → Have facts u β w' (List.range (ops.size - 1)) →
      (∀ i j, i < ops.size - 1 → j < ops.size - 1 → i ≠ j → ∀ b ∈ β i, b ∉ β j) → (∀ i, i < ops.size - 1 → ∀ b ∈ β i, w.heap.size ≤ b ∧ b < w'.heap.size) → ∀ fr : Act, fr = frameL ops u a →
      ∀ K : Act → World → Prop, (∀ a' w'', Q .normal a' w'' → K a' w'') → if Region.wanted o (yielded ops fr.tmps) = true then Oper.wp P o fr w' K Q else K (fr.put o.dst undef) w'

/-- The same where one operation stands behind all the others. -/
theorem wp_region_free_last {id : Nat} {a : Act} {w : World} (hm : P.follows .mixedOrders = true) (facts : List Fact) (hp : apartB ops = true) (hfw : aheadB ops = true) (hdeps : depsB ops facts = true) (hok : ∀ F ∈ facts, F.Ok)
    (hl : lastB ops = true) (hpos : (ops.size != 0) = true) (hsteps : StepsL (FreeStep P ops Q facts a w) (LastStep P ops Q facts a w) 0 ops.toList) :
    (Code.region id ops true).wp P Q a w := by
  have hpos : 0 < ops.size := Nat.pos_of_ne_zero (by intro e; rw [e] at hpos; cases hpos)
  have ho : ops[ops.size - 1]? = some (ops[ops.size - 1]'(by omega)) := Array.getElem?_eq_getElem (by omega)
  have hend := (hsteps.at_ (j := ops.size - 1) (o := ops[ops.size - 1]'(by omega)) (by simp)).2 (by simp; omega)
  have hcl : ∀ (listed : Array Bool), (∀ i o, ops[i]? = some o → listed.getD i false = true → ∀ e ∈ o.after, Region.binds .any e = true → listed.getD e.on false = true) → ∀ n l, (∀ k ∈ l, listed.getD k false = true) → ∀ k ∈ closed ops n l, listed.getD k false = true := by
    intro listed h n
    induction n with
    | zero => intro l hl k hk; exact hl k hk
    | succ n ih =>
      intro l hl
      refine ih _ fun k hk => ?_
      rcases List.mem_append.1 hk with hk | hk
      · exact hl k hk
      · rw [List.mem_filter, List.mem_eraseDups, List.mem_flatMap] at hk
        obtain ⟨⟨i, hi, hk⟩, _⟩ := hk
        cases hoi : ops[i]? with
        | none => rw [hoi] at hk; cases hk
        | some oi =>
          rw [hoi] at hk
          rw [List.mem_map] at hk
          obtain ⟨e, he, rfl⟩ := hk
          rw [List.mem_filter] at he
          exact h i oi hoi (hl i hi) e (by simpa using he.1) he.2
  refine wp_region_any hm (wpAny_free facts (fun i => i == ops.size - 1) [] (fun k hk => by cases hk) hp hfw hdeps hok (fun i oi hoi => ?_) (fun listed u β w' hall hM => ?_))
  · have hin := (Array.getElem?_eq_some_iff.1 hoi).1
    by_cases hlast : i = ops.size - 1
    · right
      subst hlast
      rw [ho] at hoi
      cases hoi
      intro listed u β w1 fuel hM _ hli haft
      have hall : ∀ k, k < ops.size - 1 → listed.getD k false = true := by
        intro k hk
        unfold lastB at hl
        rw [List.all_eq_true] at hl
        have := hl k (List.mem_range.2 hk)
        refine hcl listed hM.after ops.size (behind ops (ops.size - 1)) (fun k hk => ?_) k (by simpa using this)
        unfold behind at hk
        rw [ho] at hk
        rw [List.mem_map] at hk
        obtain ⟨e, he, rfl⟩ := hk
        rw [List.mem_filter] at he
        exact haft e (by simpa using he.1) he.2
      refine wpOp_step ho fun K hK => hend u β w1 hM.below (Have.of fun k hk => hM.have_ k (hall k (List.mem_range.1 hk))) (fun i j hi hj => hM.apart i j (hall i hi) (hall j hj)) (fun i hi => hM.bound i (hall i hi)) _ (frameL_eq hp u a).symm K fun a' w'' hq => hK a' w'' ?_
      have hsz := hM.size
      refine wpAny_done ?_ hq fuel
      unfold Region.ready
      rw [List.filter_eq_nil_iff]
      intro k hk
      have hkn := List.mem_range.1 hk
      have hk' : k < listed.size := by omega
      by_cases e : k = ops.size - 1
      · rw [e]
        simp [show ops.size - 1 < listed.size by omega]
      · have := hall k (by omega)
        simp only [Array.getD_eq_getD_getElem?, Array.getElem?_setIfInBounds_ne (fun e' => e e'.symm)]
        simp [hk'] at this ⊢
        simp [this]
    · left
      refine ⟨by simpa using hlast, ?_⟩
      have := (hsteps.at_ (j := i) (o := oi) (by simpa using hoi)).1 (by simp; omega)
      rwa [Nat.zero_add] at this
  · exfalso
    have := hM.goes (ops.size - 1) (hall _ (by omega))
    simp at this

/-- The append that stands behind all the others but the store: it may write in place; behind it comes the store. -/
def TailStep (P : Program) (ops : Array Oper) (Q : Exit → Act → World → Prop) (facts : List Fact) (a : Act) (w : World) (others : List Nat) (oS o : Oper) : Prop :=
  ∀ (u : Nat → Value) (β : Nat → List Nat) (w' : World), Below w.heap.size w w' → Have facts u β w' others →
    (∀ i j, i ∈ others → j ∈ others → i ≠ j → ∀ b ∈ β i, b ∉ β j) → (∀ i, i ∈ others → ∀ b ∈ β i, w.heap.size ≤ b ∧ b < w'.heap.size) → ∀ fr : Act, fr = frameL ops u a →
    ∀ K : Act → World → Prop, (∀ (x : Value) (w'' : World), (∀ K2 : Act → World → Prop, (∀ a3 w3, Q .normal a3 w3 → K2 a3 w3) →
        if Region.wanted oS (yielded ops (fr.put o.dst x).tmps) = true then Oper.wp P oS (fr.put o.dst x) w'' K2 Q else K2 ((fr.put o.dst x).put oS.dst undef) w'') → K (fr.put o.dst x) w'') →
      if Region.wanted o (yielded ops fr.tmps) = true then Oper.wp P o fr w' K Q else K (fr.put o.dst undef) w'

/-- All but the two operations of the tail stand ahead of the first of them. -/
def tailB (ops : Array Oper) (ia t : Nat) : Bool :=
  (List.range ops.size).all fun k => k == ia || k == ops.size - 1 || k == t || (closed ops ops.size (behind ops ia)).contains k

theorem closed_listed {listed : Array Bool} (h : ∀ i o, ops[i]? = some o → listed.getD i false = true → ∀ e ∈ o.after, Region.binds .any e = true → listed.getD e.on false = true) : ∀ n l, (∀ k ∈ l, listed.getD k false = true) → ∀ k ∈ closed ops n l, listed.getD k false = true := by
  intro n
  induction n with
  | zero => intro l hl k hk; exact hl k hk
  | succ n ih =>
    intro l hl
    refine ih _ fun k hk => ?_
    rcases List.mem_append.1 hk with hk | hk
    · exact hl k hk
    · rw [List.mem_filter, List.mem_eraseDups, List.mem_flatMap] at hk
      obtain ⟨⟨i, hi, hk⟩, _⟩ := hk
      cases hoi : ops[i]? with
      | none => rw [hoi] at hk; cases hk
      | some oi =>
        rw [hoi] at hk
        rw [List.mem_map] at hk
        obtain ⟨e, he, rfl⟩ := hk
        rw [List.mem_filter] at he
        exact h i oi hoi (hl i hi) e (by simpa using he.1) he.2

/-- One operation (t) that yields in whatever world is taken first; then all others but the tail; then the append (ia) and the store, the last one. -/
theorem wp_region_free_tail {id : Nat} {a : Act} {w : World} (hm : P.follows .mixedOrders = true) (facts : List Fact) (t ia : Nat) (v : Value) {ot oa oS : Oper} (ht : ops[t]? = some ot) (ha : ops[ia]? = some oa) (hS : ops[ops.size - 1]? = some oS)
    (hsel : Region.noSelect ops = true) (hfree : Region.free .any ops (Array.replicate ops.size false) t = true) (hready : (Region.ready .any ops (Array.replicate ops.size false)).contains t = true)
    (hQ : ∀ c a w, Q (.panic c) (a.put ot.dst v) w → Q (.panic c) a w) (hy : Yields P ops ot v a)
    (hft : factAt facts t = .val [] (fun _ => v)) (hne : (t != ia && t != ops.size - 1 && ia != ops.size - 1) = true)
    (hp : apartB ops = true) (hfw : aheadB ops = true) (hdeps : depsB ops facts = true) (hok : ∀ F ∈ facts, F.Ok) (hl : tailB ops ia t = true) (hSa : ∃ e ∈ oS.after, Region.binds .any e = true ∧ e.on = ia)
    (hsteps : ∀ i o, ops[i]? = some o → i ≠ ia → i ≠ ops.size - 1 → FreeStep P ops Q facts a w i o)
    (htail : TailStep P ops Q facts a w ((List.range ops.size).filter fun i => i != ia && i != ops.size - 1) oS oa) : (Code.region id ops true).wp P Q a w := by
  simp only [Bool.and_eq_true, bne_iff_ne, ne_eq] at hne
  obtain ⟨⟨h1, h2⟩, h3⟩ := hne
  have htn := (Array.getElem?_eq_some_iff.1 ht).1
  have han := (Array.getElem?_eq_some_iff.1 ha).1
  refine wp_region_any hm ?_
  obtain ⟨f, hf⟩ : ∃ f, ops.size = f + 1 := ⟨ops.size - 1, by omega⟩
  have hgo : wpAny P .any ops Q (f + 1) (Array.replicate ops.size false) a w.drew := by
    refine wpAny_take ht hsel hfree hready hQ hy ?_
    have hd : ot.dst = dstAt ops t := by unfold dstAt; rw [ht]; rfl
    have hfr : a.put ot.dst v = frameOf ops (upd (atFirst ops a) t v) a := by
      unfold frameOf
      rw [← putsA_put hp (atFirst ops a) a v _ (List.mem_range.2 htn) List.nodup_range (fun j hj => List.mem_range.1 hj), putsA_first, hd]
    rw [hfr]
    have hget : ∀ k, ((Array.replicate ops.size false).setIfInBounds t true).getD k false = true ↔ k = t := by
      intro k
      by_cases e : k = t
      · subst e; simp [htn]
      · simp only [Array.getD_eq_getD_getElem?, Array.getElem?_setIfInBounds_ne (fun e' => e e'.symm), e, iff_false]
        by_cases hk : k < ops.size <;> simp [hk]
    have hnoedge : ∀ e ∈ ot.after, Region.binds .any e = true → False := by
      intro e he hb
      have hr : t ∈ Region.ready .any ops (Array.replicate ops.size false) := by simpa using hready
      unfold Region.ready at hr
      rw [List.mem_filter, ht] at hr
      have h := hr.2
      simp only [Option.map_some, Option.getD_some, Bool.and_eq_true] at h
      have h := (Array.all_eq_true_iff_forall_mem.1 h.2) e he
      rw [hb] at h
      by_cases hk : e.on < ops.size <;> simp [hk] at h
    refine wpAny_mid (w := w) facts (fun i => i == ia || i == ops.size - 1) [t] hp hfw hdeps hok (fun i o ho => ?_) (fun listed u β w' hall hM => ?_) f _ _ (fun _ => []) w.drew ?_ ?_
    · by_cases e1 : i = ia
      · right
        subst e1
        rw [ha] at ho
        cases ho
        intro listed u β w1 fuel hM hlen hli haft
        have hsz := hM.size
        have hall : ∀ k, k < ops.size → k ≠ i → k ≠ ops.size - 1 → listed.getD k false = true := by
          intro k hk e1 e2
          by_cases e3 : k = t
          · exact hM.has k (by simp [e3])
          · unfold tailB at hl
            rw [List.all_eq_true] at hl
            have h := hl k (List.mem_range.2 hk)
            simp only [Bool.or_eq_true, beq_iff_eq, e1, e2, e3, false_or] at h
            refine closed_listed hM.after ops.size (behind ops i) (fun k hk => ?_) k (by simpa using h)
            unfold behind at hk
            rw [ha] at hk
            rw [List.mem_map] at hk
            obtain ⟨e, he, rfl⟩ := hk
            rw [List.mem_filter] at he
            exact haft e (by simpa using he.1) he.2
        have hmem : ∀ k, k ∈ (List.range ops.size).filter (fun k => k != i && k != ops.size - 1) → listed.getD k false = true := by
          intro k hk
          rw [List.mem_filter, List.mem_range] at hk
          simp only [Bool.and_eq_true, bne_iff_ne, ne_eq] at hk
          exact hall k hk.1 hk.2.1 hk.2.2
        have hlast : listed.getD (ops.size - 1) false = false := by
          cases h : listed.getD (ops.size - 1) false with
          | false => rfl
          | true => have := hM.goes _ h; simp at this
        have hl2 : listed.getD (ops.size - 1) true = true → False := by
          intro h
          have hk : ops.size - 1 < listed.size := by omega
          simp [hk] at h hlast
          rw [hlast] at h
          cases h
        obtain ⟨g, rfl⟩ : ∃ g, fuel = g + 1 := by
          cases fuel with
          | succ g => exact ⟨g, rfl⟩
          | zero =>
            exfalso
            have m1 : i ∈ (List.range ops.size).filter (fun i => !listed.getD i true) := by
              rw [List.mem_filter]; exact ⟨List.mem_range.2 han, by rw [hli]; rfl⟩
            have m2 : ops.size - 1 ∈ (List.range ops.size).filter (fun i => !listed.getD i true) := by
              rw [List.mem_filter]
              refine ⟨List.mem_range.2 (by omega), ?_⟩
              cases h : listed.getD (ops.size - 1) true with
              | false => rfl
              | true => exact (hl2 h).elim
            generalize (List.range ops.size).filter (fun i => !listed.getD i true) = l at hlen m1 m2
            match l, hlen, m1, m2 with
            | [x], _, m1, m2 => exact h3 (by rw [List.mem_singleton.1 m1, List.mem_singleton.1 m2])
        refine wpOp_step ha fun K hK => htail u β w1 hM.below (Have.of fun k hk => hM.have_ k (hmem k hk)) (fun i j hi hj => hM.apart i j (hmem i hi) (hmem j hj)) (fun i hi => hM.bound i (hmem i hi)) _ (frameL_eq hp u a).symm K
          fun x w'' hnext => hK _ _ ?_
        have hset : ∀ k, k < ops.size → ((listed.setIfInBounds i true).getD k false = true ↔ k ≠ ops.size - 1) := by
          intro k hk
          by_cases e : k = i
          · subst e
            simp [show k < listed.size by omega, h3]
          · simp only [Array.getD_eq_getD_getElem?, Array.getElem?_setIfInBounds_ne (fun e' => e e'.symm)]
            simp only [Array.getD_eq_getD_getElem?] at hall hlast
            constructor
            · intro h e2
              subst e2
              rw [hlast] at h
              cases h
            · intro e2
              exact hall k hk e e2
        have hsz2 : (listed.setIfInBounds i true).size = ops.size := by simpa using hsz
        have hlt2 : ∀ k, k < ops.size → (listed.setIfInBounds i true).getD k true = (listed.setIfInBounds i true).getD k false := by
          intro k hk
          have : k < (listed.setIfInBounds i true).size := by omega
          rw [Array.getD_eq_getD_getElem?, Array.getD_eq_getD_getElem?, Array.getElem?_eq_getElem this]
          rfl
        have hS' := hS
        have hready2 : Region.ready .any ops (listed.setIfInBounds i true) = [ops.size - 1] := by
          unfold Region.ready
          have hr : List.range ops.size = List.range (ops.size - 1) ++ [ops.size - 1] := by
            rw [← List.range_succ]
            congr 1
            omega
          rw [hr, List.filter_append]
          have e1 : (List.range (ops.size - 1)).filter (fun k => !(listed.setIfInBounds i true).getD k true && ((ops[k]?).map (·.after.all fun e => !Region.binds .any e || (listed.setIfInBounds i true).getD e.on false)).getD false) = [] := by
            rw [List.filter_eq_nil_iff]
            intro k hk
            have hk := List.mem_range.1 hk
            rw [hlt2 k (by omega), (hset k (by omega)).2 (by omega)]
            simp
          rw [e1, List.nil_append]
          have e2 : (listed.setIfInBounds i true).getD (ops.size - 1) false = false := by
            cases h : (listed.setIfInBounds i true).getD (ops.size - 1) false with
            | false => rfl
            | true => exact absurd rfl ((hset _ (by omega)).1 h)
          have e3 : (oS.after.all fun e => !Region.binds .any e || (listed.setIfInBounds i true).getD e.on false) = true := by
            rw [Array.all_eq_true_iff_forall_mem]
            intro e he
            cases hbnd : Region.binds .any e with
            | false => rfl
            | true =>
            have hlt : e.on < ops.size - 1 := by
              unfold aheadB at hfw
              rw [List.all_eq_true] at hfw
              have h := hfw (ops.size - 1) (List.mem_range.2 (by omega))
              rw [hS] at h
              have h := (Array.all_eq_true_iff_forall_mem.1 h) e he
              simpa [hbnd] using h
            rw [(hset e.on (by omega)).2 (by omega)]
            simp
          rw [List.filter_cons_of_pos, List.filter_nil]
          rw [hlt2 _ (by omega), e2, hS]
          simp only [Option.map_some, Option.getD_some, e3, Bool.not_false, Bool.and_self]
        refine wpAny_all hready2 (by simp) fun k hk => ?_
        rw [List.mem_singleton.1 hk]
        refine wpOp_step hS fun K2 hK2 => hnext K2 fun a3 w3 hq => hK2 _ _ (wpAny_done ?_ hq _)
        unfold Region.ready
        rw [List.filter_eq_nil_iff]
        intro k hk
        have hkn := List.mem_range.1 hk
        by_cases e : k = ops.size - 1
        · subst e
          simp [show ops.size - 1 < listed.size by omega]
        · have := (hset k hkn).2 e
          have hk2 : k < ((listed.setIfInBounds i true).setIfInBounds (ops.size - 1) true).size := by simp; omega
          simp only [Array.getD_eq_getD_getElem?, Array.getElem?_setIfInBounds_ne (fun e' => e e'.symm)] at this ⊢
          rw [← Array.getD_eq_getD_getElem?, hlt2 k hkn, Array.getD_eq_getD_getElem?, this]
          simp
      · by_cases e2 : i = ops.size - 1
        · right
          intro listed u β w1 fuel hM hlen hli haft
          -- the store stands behind the append
          exfalso
          subst e2
          rw [hS] at ho
          cases ho
          obtain ⟨e, he, hb, hon⟩ := hSa
          have := hM.goes e.on (haft e he hb)
          rw [hon] at this
          simp at this
        · left
          exact ⟨by simp [e1, e2], hsteps i o ho e1 e2⟩
    · have := hM.goes ia (hall ia han)
      simp at this
    · refine ⟨by simp, fun i hi k hk => ?_, fun i o ho hi e he hb => ?_, fun i hi => ?_, fun k hk => (hget k).2 (by simpa using hk), ⟨rfl, rfl, rfl, Nat.le_refl _, fun _ _ => rfl⟩, fun i hi => ?_, (fun i j hi hj hij b hb => by cases hb), (fun i hi b hb => by cases hb)⟩
      · rw [hget] at hi ⊢
        subst hi
        rw [hft] at hk
        simpa [Fact.deps] using hk
      · rw [hget] at hi
        subst hi
        rw [ht] at ho
        cases ho
        exact absurd hb (fun hb => hnoedge e he hb)
      · rw [hget] at hi
        subst hi
        simp [h1, h2]
      · rw [hget] at hi
        subst hi
        rw [hft]
        show upd _ i v i = v
        rw [upd_same]
    · have hlt : ((List.range ops.size).filter (fun i => !((Array.replicate ops.size false).setIfInBounds t true).getD i true)).length < ops.size := by
        have := List.length_filter_lt_length_iff_exists (l := List.range ops.size) (p := fun i => !((Array.replicate ops.size false).setIfInBounds t true).getD i true) |>.2 ⟨t, List.mem_range.2 htn, by simp [htn]⟩
        simpa using this
      omega
  rw [← hf] at hgo
  exact hgo

/-- From f on each operation stands behind all those ahead of it. -/
def forcedB (ops : Array Oper) (f : Nat) : Bool := (List.range ops.size).all fun k => decide (k < f) || (List.range k).all fun j => (closed ops ops.size (behind ops k)).contains j

theorem ahead_of {j : Nat} {o : Oper} (hfw : aheadB ops = true) (ho : ops[j]? = some o) {e : Edge} (he : e ∈ o.after) (hbnd : Region.binds .any e = true) : e.on < j := by
  unfold aheadB at hfw
  rw [List.all_eq_true] at hfw
  have h := hfw j (List.mem_range.2 (Array.getElem?_eq_some_iff.1 ho).1)
  rw [ho] at h
  have h := (Array.all_eq_true_iff_forall_mem.1 h) e he
  simpa [hbnd] using h

/-- What is left comes in its order. -/
theorem wpAny_seq {f : Nat} (hfw : aheadB ops = true) (hforced : forcedB ops f = true) : ∀ (d k fuel : Nat) (listed : Array Bool) (a : Act) (w : World), f ≤ k → k + d = ops.size → listed.size = ops.size → (∀ i, i < ops.size → (listed.getD i false = true ↔ i < k)) → d ≤ fuel →
    wpOps P ops Q (List.range' k d) a w → wpAny P .any ops Q fuel listed a w
  | 0, k, fuel, listed, a, w, _, hk, hsz, hl, _, h => by
    refine wpAny_done ?_ h fuel
    unfold Region.ready
    rw [List.filter_eq_nil_iff]
    intro i hi
    have hin := List.mem_range.1 hi
    have h1 := (hl i hin).2 (by omega)
    have : listed.getD i true = true := by
      have hi' : i < listed.size := by omega
      simp [hi'] at h1 ⊢
      exact h1
    rw [this]
    simp
  | d + 1, k, 0, listed, a, w, _, hk, hsz, hl, hd, h => by omega
  | d + 1, k, fuel + 1, listed, a, w, hfk, hk, hsz, hl, hd, h => by
    have hkn : k < ops.size := by omega
    have hok : ops[k]? = some ops[k] := Array.getElem?_eq_getElem hkn
    have hgt : ∀ i, i < ops.size → listed.getD i true = listed.getD i false := by
      intro i hi
      have : i < listed.size := by omega
      rw [Array.getD_eq_getD_getElem?, Array.getD_eq_getD_getElem?, Array.getElem?_eq_getElem this]
      rfl
    have hready : Region.ready .any ops listed = [k] := by
      unfold Region.ready
      have hr : List.range ops.size = List.range k ++ (k :: List.range' (k + 1) d) := by
        rw [List.range_eq_range', List.range_eq_range', ← List.range'_succ, show List.range' k (d + 1) = List.range' (0 + 1 * k) (d + 1) by simp, List.range'_append, hk]
      rw [hr, List.filter_append]
      have e1 : (List.range k).filter (fun i => !listed.getD i true && ((ops[i]?).map (·.after.all fun e => !Region.binds .any e || listed.getD e.on false)).getD false) = [] := by
        rw [List.filter_eq_nil_iff]
        intro i hi
        have hi := List.mem_range.1 hi
        rw [hgt i (by omega), (hl i (by omega)).2 hi]
        simp
      have e2 : (List.range' (k + 1) d).filter (fun i => !listed.getD i true && ((ops[i]?).map (·.after.all fun e => !Region.binds .any e || listed.getD e.on false)).getD false) = [] := by
        rw [List.filter_eq_nil_iff]
        intro i hi hc
        have hi := List.mem_range'_1.1 hi
        have hin : i < ops.size := by omega
        have hoi : ops[i]? = some ops[i] := Array.getElem?_eq_getElem hin
        rw [hoi] at hc
        simp only [Option.map_some, Option.getD_some, Bool.and_eq_true] at hc
        have haf := Array.all_eq_true_iff_forall_mem.1 hc.2
        have hf2 := hforced
        unfold forcedB at hf2
        rw [List.all_eq_true] at hf2
        have h1 := hf2 i (List.mem_range.2 hin)
        rw [Bool.or_eq_true] at h1
        rcases h1 with h1 | h1
        · have := of_decide_eq_true h1; omega
        · rw [List.all_eq_true] at h1
          have h1 := h1 k (List.mem_range.2 (by omega))
          have := closed_listed (ops := ops) (listed := listed) (fun i' o' ho' hl' e he hb => by
            have h3 := ahead_of hfw ho' he hb
            have h4 := (Array.getElem?_eq_some_iff.1 ho').1
            exact (hl e.on (by omega)).2 (by have := (hl i' h4).1 hl'; omega)) ops.size (behind ops i) (fun q hq => by
            unfold behind at hq
            rw [hoi] at hq
            rw [List.mem_map] at hq
            obtain ⟨e, he, rfl⟩ := hq
            rw [List.mem_filter] at he
            have := haf e (by simpa using he.1)
            rw [he.2] at this
            simpa using this) k (by simpa using h1)
          have := (hl k hkn).1 this
          omega
      rw [e1, List.nil_append, List.filter_cons_of_pos, e2]
      rw [hgt k hkn, hok]
      have e3 : listed.getD k false = false := by
        cases h : listed.getD k false with
        | false => rfl
        | true => have := (hl k hkn).1 h; omega
      rw [e3]
      simp only [Option.map_some, Option.getD_some, Bool.not_false, Bool.true_and]
      rw [Array.all_eq_true_iff_forall_mem]
      intro e he
      cases hbnd : Region.binds .any e with
      | false => rfl
      | true =>
      have := ahead_of hfw hok he hbnd
      rw [(hl e.on (by omega)).2 this]
      simp
    refine wpAny_all hready (by simp) fun i hi => ?_
    rw [List.mem_singleton.1 hi]
    rw [List.range'_succ, wpOps_cons] at h
    refine wpOp_mono (fun a w h => wpAny_seq hfw hforced d (k + 1) fuel _ a w (by omega) (by omega) (by simpa using hsz) (fun i hi => ?_) (by omega) h) h
    by_cases e : i = k
    · subst e
      simp [show i < listed.size by omega]
    · simp only [Array.getD_eq_getD_getElem?, Array.getElem?_setIfInBounds_ne (fun e' => e e'.symm)]
      rw [← Array.getD_eq_getD_getElem?, hl i hi]
      omega

/-- A region that draws its order, whose last operations (from f on) come in a forced order: in the end these are walked one behind the other. -/
theorem wp_region_free_seq {id : Nat} {a : Act} {w : World} (hm : P.follows .mixedOrders = true) (facts : List Fact) (f : Nat) (hp : apartB ops = true) (hfw : aheadB ops = true) (hdeps : depsB ops facts = true) (hok : ∀ F ∈ facts, F.Ok)
    (hforced : forcedB ops f = true) (hf : decide (f < ops.size) = true) (hsteps : Steps (fun i o => i < f → FreeStep P ops Q facts a w i o) 0 ops.toList)
    (hend : ∀ (u : Nat → Value) (β : Nat → List Nat) (w' : World), Below w.heap.size w w' → Have facts u β w' (List.range f) →
      (∀ i j, i < f → j < f → i ≠ j → ∀ b ∈ β i, b ∉ β j) → (∀ i, i < f → ∀ b ∈ β i, w.heap.size ≤ b ∧ b < w'.heap.size) → ∀ fr : Act, fr = frameL ops u a → wpOps P ops Q (List.range' f (ops.size - f)) fr w') :
    (Code.region id ops true).wp P Q a w := by
  have hf := of_decide_eq_true hf
  refine wp_region_any hm (wpAny_free facts (fun i => decide (f ≤ i)) [] (fun k hk => by cases hk) hp hfw hdeps hok (fun i o ho => ?_) (fun listed u β w' hall hM => ?_))
  · by_cases hif : i < f
    · left
      exact ⟨by simpa using hif, Steps.all hsteps i o ho hif⟩
    · right
      intro listed u β w1 fuel hM hlen hli haft
      have hin := (Array.getElem?_eq_some_iff.1 ho).1
      have hsz := hM.size
      have hcl : ∀ j, j < i → listed.getD j false = true := by
        intro j hj
        have hf2 := hforced
        unfold forcedB at hf2
        rw [List.all_eq_true] at hf2
        have h1 := hf2 i (List.mem_range.2 hin)
        rw [Bool.or_eq_true] at h1
        rcases h1 with h1 | h1
        · exact absurd (of_decide_eq_true h1) hif
        · rw [List.all_eq_true] at h1
          refine closed_listed hM.after ops.size (behind ops i) (fun q hq => ?_) j (by simpa using h1 j (List.mem_range.2 hj))
          unfold behind at hq
          rw [ho] at hq
          rw [List.mem_map] at hq
          obtain ⟨e, he, rfl⟩ := hq
          rw [List.mem_filter] at he
          exact haft e (by simpa using he.1) he.2
      obtain rfl : i = f := by
        rcases Nat.lt_or_ge f i with h | h
        · have := hM.goes f (hcl f h)
          simp at this
        · omega
      have hno : ∀ j, i ≤ j → listed.getD j false = false := by
        intro j hj
        cases h : listed.getD j false with
        | false => rfl
        | true => have := hM.goes j h; simp at this; omega
      have h := hend u β w1 hM.below (Have.of fun k hk => hM.have_ k (hcl k (List.mem_range.1 hk))) (fun a b ha hb => hM.apart a b (hcl a ha) (hcl b hb)) (fun a ha => hM.bound a (hcl a ha)) _ (frameL_eq hp u a).symm
      rw [show ops.size - i = (ops.size - i - 1) + 1 by omega, List.range'_succ, wpOps_cons] at h
      have hcount : ops.size - i - 1 ≤ fuel := by
        have h2 : ((List.range ops.size).filter (fun k => !listed.getD k true)).length = ops.size - i := by
          have hr : List.range ops.size = List.range i ++ List.range' i (ops.size - i) := by
            rw [List.range_eq_range', List.range_eq_range', show List.range' i (ops.size - i) = List.range' (0 + 1 * i) (ops.size - i) by simp, List.range'_append, show i + (ops.size - i) = ops.size by omega]
          rw [hr, List.filter_append]
          have e1 : (List.range i).filter (fun k => !listed.getD k true) = [] := by
            rw [List.filter_eq_nil_iff]
            intro k hk
            have hk := List.mem_range.1 hk
            have h1 := hcl k hk
            have : k < listed.size := by omega
            simp [this] at h1 ⊢
            exact h1
          have e2 : (List.range' i (ops.size - i)).filter (fun k => !listed.getD k true) = List.range' i (ops.size - i) := by
            rw [List.filter_eq_self]
            intro k hk
            have hk := List.mem_range'_1.1 hk
            have h1 := hno k hk.1
            have : k < listed.size := by omega
            simp [this] at h1 ⊢
            exact h1
          rw [e1, e2]
          simp
        omega
      refine wpOp_mono (fun a w h => wpAny_seq hfw hforced (ops.size - i - 1) (i + 1) fuel _ a w (by omega) (by omega) (by simpa using hsz) (fun k hk => ?_) hcount h) h
      by_cases e : k = i
      · subst e
        simp [show k < listed.size by omega]
      · simp only [Array.getD_eq_getD_getElem?, Array.getElem?_setIfInBounds_ne (fun e' => e e'.symm)]
        rw [← Array.getD_eq_getD_getElem?]
        constructor
        · intro h1
          rcases Nat.lt_or_ge k i with h2 | h2
          · omega
          · rw [hno k h2] at h1; cases h1
        · intro h1
          exact hcl k (by omega)
  · have := hM.goes f (hall f hf)
    simp at this
end
end Go.Proofs.Yticmekdfdilcpaa
