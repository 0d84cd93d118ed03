/- Queries: the laws' own functions on them. -/
import Derived.Test.YtfaiifiohomdmaaQry
namespace Go.Proofs.Ytfaiifiohomdmaa
open Go.RowKit Go.ChangeShapes Go.WideShapes Go.Deep
set_option linter.unusedVariables false

structure Qr where
  steps : List (Bool × ByteArray)

def QrE (base : Nat) : EP Qr := fun w v c bs => ∃ v0, v = .agg #[v0] ∧ StepE base w v0 c.steps bs
theorem query_ok (base : Nat) : EP.Ok base (QrE base) where
  kept := by
    rintro w w' v c bs ⟨v0, rfl, h0⟩ hs
    exact ⟨v0, rfl, (step_ok base).kept h0 hs⟩
  lt := by
    rintro w v c bs ⟨v0, rfl, h0⟩ b hb
    exact (step_ok base).lt h0 b hb
  nodup := by rintro w v c bs ⟨v0, rfl, h0⟩; exact (step_ok base).nodup h0
theorem query_base {b b' : Nat} (hb : b' ≤ b) (w : World) (v : Value) (x : Qr) (bs : List Nat) (h : QrE b w v x bs) : QrE b' w v x bs := by
  obtain ⟨v0, rfl, h0⟩ := h
  exact ⟨v0, rfl, steps_base hb _ _ _ _ h0⟩
theorem QrE.form {base : Nat} {w : World} {v : Value} {c : Qr} {bs : List Nat} (h : QrE base w v c bs) : ∃ (A0 : Option Addr) (n0 k0 : Nat), v = .agg #[.slice A0 n0 k0] := by
  obtain ⟨v0, rfl, h0⟩ := h
  obtain ⟨A0, k0, rfl⟩ := RowE.slice h0
  exact ⟨A0, _, k0, rfl⟩
def szQ (c : Qr) : Nat := lenS c.steps
structure BdQ (c : Qr) : Prop where
  steps : Bd1 c.steps
  sum : szQ c ≤ 2100000
def mkQ (k : Nat) (c : Qr) : Qr := { steps := mkS k c.steps }

set_option maxHeartbeats 3200000 in
set_option maxRecDepth 100000 in
theorem eq_query {base base' : Nat} {v v' : Value} {c : Qr} {bs bs' : List Nat} (w : World) (hc : BdQ c) (ha : QrE base w v c bs) (hb : QrE base' w v' c bs') :
    Calls Try.prog 117 #[v, v'] w (SeenPost (.bool true) w) := by
  obtain ⟨v0, rfl, h0⟩ := ha
  obtain ⟨u0, rfl, g0⟩ := hb
  have hB : Below w.heap.size w ((w.alloc (.cells #[v0] 71)).alloc (.cells #[u0] 71)) := ((Below.refl _ _).alloc (Nat.le_refl _) _).alloc (by simp) _
  have q0 := eq_steps _ hc.steps ((step_ok base).later h0 hB) ((step_ok base').later g0 hB)
  have Q0 := Lib.hid q0
  have x1 := (Bx.new w 71 #[v0]).alloc (.cells #[u0] 71)
  have x2 := Bx.new (w.alloc (.cells #[v0] 71)) 71 #[u0]
  rw [World.size_alloc] at x2
  obtain ⟨p0, pl⟩ := x1.all1
  obtain ⟨d0, dl⟩ := x2.all1
  clear h0 g0 hc q0 x1 x2
  go_enter Try.func117, Try.ntmps117
  go_wp2_with fail
  refine Q0.out.mono ?_
  rintro e w1 ⟨rfl, hb1⟩
  go_wp2
  go_ret
  exact ⟨rfl, hB.trans (hb1.mono hB.size)⟩

structure WfQ (c : Qr) : Prop where
  steps : WfS c.steps
/-- A laws.Query that came in. -/
def QrR : RP Qr := fun w v c => ∃ v0, v = .agg #[v0] ∧ StepQ w v0 c.steps
theorem query_r : RP.Ok QrR where
  later := by
    rintro w w' v c ⟨v0, rfl, h0⟩ hb
    exact ⟨v0, rfl, stepq_r.later h0 hb⟩
theorem QrR.form {w : World} {v : Value} {c : Qr} (h : QrR w v c) : ∃ (A0 : Option Addr) (n0 k0 : Nat), v = .agg #[.slice A0 n0 k0] := by
  obtain ⟨v0, rfl, ⟨A0, k0, rfl, _⟩, _⟩ := h
  exact ⟨A0, _, k0, rfl⟩

theorem cells_Query : Try.prog.cellsOf 64 = 1 := by kernel_rfl
section
variable {H : Type} {enc : TypeId × Value → H} {w : World} {held : Bool}
set_option maxRecDepth 100000 in
theorem read_query {n : Nat} {cs : List Value} {x : DataW H × List MemPlace} (h : DataW.trod enc Try.prog w 0 (fun _ => true) held n 64 cs = some x) : ∃ v0 c, cs = [v0] ∧ StepQ w v0 c ∧ WfS c := by
  obtain ⟨xs, m, _, _, hl, hxl, hf⟩ := DataW.trod_struct Try.underlying64 h
  rw [cells_Query] at hl
  have h0 : DataW.trod enc Try.prog w 0 (fun _ => true) held m 62 ((cs.drop 0).take (Try.prog.cellsOf 62)) = xs[0]? := hf 0 _ rfl
  rw [cells_qsteps] at h0
  match cs, hl with
  | [c0], _ =>
    have hx0 : xs[0]? = some (xs[0]'(by rw [hxl]; decide)) := List.getElem?_eq_getElem _
    rw [hx0] at h0
    simp only [List.drop_zero, List.take_succ_cons, List.take_zero] at h0
    obtain ⟨x0, r0, w0⟩ := read_steps h0
    exact ⟨c0, x0, rfl, r0, w0⟩
set_option maxRecDepth 100000 in
theorem open_query {r : Reach} {b0 : Nat} {v : Value} {d : DataW H} {p : List MemPlace} (hv : Value.okWide Try.prog w r b0 64 v) (h : DataW.Trod enc Try.prog w 0 (fun _ => true) held 64 v d p) : ∃ c, QrR w v c ∧ WfQ c := by
  obtain ⟨cs, rfl, hsz⟩ := okWide_struct Try.underlying64 hv
  rw [cells_Query] at hsz
  obtain ⟨fuel, hf⟩ := h
  obtain ⟨xs, n, _, _, _, hxl, hg⟩ := DataW.trod_struct Try.underlying64 hf
  obtain ⟨l⟩ := cs
  match l, hsz with
  | [c0], _ =>
    have hx : ∀ i, i < 1 → ∃ y, xs[i]? = some y := fun i hi => ⟨xs[i]'(by rw [hxl]; exact hi), List.getElem?_eq_getElem _⟩
    obtain ⟨y0, e0⟩ := hx 0 (by decide)
    have g0 : DataW.trod enc Try.prog w 0 (fun _ => true) held n 62 (([c0].drop 0).take (Try.prog.cellsOf 62)) = some y0 := (hg 0 _ rfl).trans e0
    rw [cells_qsteps] at g0
    simp only [List.drop_zero, List.take_succ_cons, List.take_zero] at g0
    obtain ⟨x0, r0, w0⟩ := read_steps g0
    exact ⟨⟨x0⟩, ⟨c0, rfl, r0⟩, ⟨w0⟩⟩
end

set_option maxHeartbeats 3200000 in
set_option maxRecDepth 100000 in
theorem to_query {v : Value} {c : Qr} (w : World) (hc : BdQ c) (ha : QrR w v c) : Calls Try.prog 109 #[v] w (NewPost QrE c w) := by
  obtain ⟨v0, rfl, h0⟩ := ha
  obtain ⟨W0, hW0⟩ : ∃ W0, W0 = ((w.alloc (.cells #[v0] 64)).alloc (.cells #[.slice none 0 0] 71)).alloc (.cells #[.slice none 0 0] 71) := ⟨_, rfl⟩
  have y1 : Bx W0 w.heap.size 64 #[v0] := by rw [hW0]; exact ((Bx.new w _ _).alloc _).alloc _
  have y2 : Bx W0 (w.heap.size + 1) 71 #[.slice none 0 0] := by
    rw [hW0]
    have := (Bx.new (w.alloc (.cells #[v0] 64)) 71 #[.slice none 0 0]).alloc (.cells #[.slice none 0 0] 71)
    rwa [World.size_alloc] at this
  have y3 : Bx W0 (w.heap.size + 1 + 1) 71 #[.slice none 0 0] := by
    rw [hW0]
    have := Bx.new ((w.alloc (.cells #[v0] 64)).alloc (.cells #[.slice none 0 0] 71)) 71 #[.slice none 0 0]
    rwa [World.size_alloc, World.size_alloc] at this
  have hB0 : Below w.heap.size w W0 := by rw [hW0]; exact (((Below.refl _ _).alloc (Nat.le_refl _) _).alloc (by simp) _).alloc (by simp; omega) _
  have hz0 : W0.heap.size = w.heap.size + 1 + 1 + 1 := by rw [hW0]; simp
  have q0 := Lib.hid (to_steps W0 hc.steps (stepq_r.later h0 hB0))
  have HW0 := Lib.hid hW0
  clear hW0 h0 hc
  go_enter Try.func109, Try.ntmps109
  go_wp2_with fail
  rw [← HW0.out]
  refine q0.out.mono ?_
  rintro e w1 ⟨v1, bs1, rfl, E1, hb1⟩
  obtain ⟨A1, k1, rfl⟩ := RowE.slice E1
  have l1 := (step_ok _).lt E1
  have z3 := y3.later hb1
  have z2 := y2.later hb1
  have c1 := z3.cell 0 _ rfl
  have c2 := z3.frozen 0
  have t1 := hb1.size
  have E1a := keepE (step_ok _) E1 (Below.refl _ _) (B := w.heap.size + 1 + 1) (fun b hb => by have := l1 b hb; omega) 0 (.slice A1 c.steps.length k1)
  have E1b := keepE (step_ok _) E1a (Below.refl _ _) (B := w.heap.size + 1) (fun b hb => by have := l1 b hb; omega) 0 (.slice A1 c.steps.length k1)
  have d0 := (z3.set 0 (.slice A1 c.steps.length k1)).cell 0 _ rfl
  have p1 := z2.other (b := w.heap.size + 1 + 1) 0 (.slice A1 c.steps.length k1) (by omega)
  have e0 := p1.cell 0 _ rfl
  have f0 := p1.frozen 0
  have g0 := (p1.set 0 (.slice A1 c.steps.length k1)).cell 0 _ rfl
  have hBf := ((hB0.trans (hb1.mono hB0.size)).setCell (p := ⟨w.heap.size + 1 + 1, 0, none⟩) (by simp; omega) (.slice A1 c.steps.length k1)).setCell (p := ⟨w.heap.size + 1, 0, none⟩) (by simp) (.slice A1 c.steps.length k1)
  have hz : w.heap.size ≤ W0.heap.size := by omega
  have HE := Lib.hid (And.intro (steps_base hz _ _ _ _ E1b) hBf)
  clear E1 E1a E1b hBf l1 p1 z3 z2 y1 y2 y3
  go_wp2
  refine bodyPost_ret (v := .agg #[.slice A1 c.steps.length k1]) (by simp [results, Try.results109, go_sem, g0]) rfl ?_
  exact ⟨_, bs1, rfl, ⟨_, rfl, HE.out.1⟩, HE.out.2⟩

def cntQ (c : Qr) : Nat := cntS c.steps
set_option maxHeartbeats 3200000 in
set_option maxRecDepth 100000 in
theorem sz_query {v : Value} {c : Qr} (left : Nat) (w : World) (hl : left ≤ 1048576) (ha : QrR w v c) : Calls Try.prog 107 #[v, .int .i64 (left : Int)] w fun e w' => e = .returned (.int .i64 (dec left (cntQ c))) ∧ Below w.heap.size w w' := by
  obtain ⟨v0, rfl, h0⟩ := ha
  unfold cntQ
  have hB : Below w.heap.size w (w.alloc (.cells #[v0] 64)) := (Below.refl _ _).alloc (Nat.le_refl _) _
  have q0 := sz_steps left _ hl (stepq_r.later h0 hB)
  obtain ⟨p0, pl⟩ := (Bx.new w 64 #[v0]).all1
  clear h0
  by_cases t0 : cntS c.steps ≤ left
  · rw [dec_yes t0] at q0 ⊢
    have Q0 := Lib.hid q0
    have hz : left - cntS c.steps ≤ 1048576 := by omega
    generalize left - cntS c.steps = r at Q0 hz ⊢
    clear q0 t0
    go_enter Try.func107, Try.ntmps107
    go_wp2_with fail
    refine Q0.out.mono ?_
    rintro e w1 ⟨rfl, hb1⟩
    go_wp2
    go_ret
    exact ⟨rfl, hB.trans (hb1.mono hB.size)⟩
  · rw [dec_no t0] at q0 ⊢
    have Q0 := Lib.hid q0
    clear q0 t0
    go_enter Try.func107, Try.ntmps107
    go_wp2_with fail
    refine Q0.out.mono ?_
    rintro e w1 ⟨rfl, hb1⟩
    go_wp2
    go_ret
    exact ⟨rfl, hB.trans (hb1.mono hB.size)⟩
theorem bd_of_query {c : Qr} (h : cntQ c ≤ 1048576) : BdQ c := by
  unfold cntQ at h
  have h1 := le_steps c.steps
  exact ⟨bds_of h, by unfold szQ; omega⟩
end Go.Proofs.Ytfaiifiohomdmaa
