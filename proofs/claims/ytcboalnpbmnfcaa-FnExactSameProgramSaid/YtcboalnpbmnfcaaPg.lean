/- Programs that own their memory, and the laws' own functions on them. -/
import Derived.Test.YtcboalnpbmnfcaaMd
namespace Go.Proofs.Ytcboalnpbmnfcaa
open Go.RowKit Go.ChangeShapes Go.WideShapes Go.Deep
set_option linter.unusedVariables false

structure Pg where
  mods : List (Int × List LkT)
def PgE (base : Nat) : EP Pg := fun w v c bs => ∃ v0, v = .agg #[v0] ∧ MdE base w v0 c.mods bs
theorem program_ok (base : Nat) : EP.Ok base (PgE base) where
  kept := by rintro w w' v c bs ⟨v0, rfl, h⟩ hs; exact ⟨v0, rfl, (md_ok base).kept h hs⟩
  lt := by rintro w v c bs ⟨v0, rfl, h⟩ b hb; exact (md_ok base).lt h b hb
  nodup := by rintro w v c bs ⟨v0, rfl, h⟩; exact (md_ok base).nodup h
theorem PgE.form {base : Nat} {w : World} {v : Value} {c : Pg} {bs : List Nat} (h : PgE base w v c bs) : ∃ (A0 : Option Addr) (n0 k0 : Nat), v = .agg #[.slice A0 n0 k0] := by
  obtain ⟨v0, rfl, h⟩ := h
  obtain ⟨A, k, rfl⟩ := h.slice
  exact ⟨A, _, k, rfl⟩
structure BdPg (c : Pg) : Prop where
  mods : BdMd c.mods
structure WfPg (c : Pg) : Prop where
  mods : WfMd c.mods
def PgR : RP Pg := fun w v c => ∃ v0, v = .agg #[v0] ∧ MdR w v0 c.mods
theorem program_r : RP.Ok PgR where
  later := by rintro w w' v c ⟨v0, rfl, h⟩ hb; exact ⟨v0, rfl, md_r.later h hb⟩
theorem PgR.form {w : World} {v : Value} {c : Pg} (h : PgR w v c) : ∃ (A0 : Option Addr) (n0 k0 : Nat), v = .agg #[.slice A0 n0 k0] := by
  obtain ⟨v0, rfl, A, k, rfl, _⟩ := h
  exact ⟨A, _, k, rfl⟩
def cntPg (c : Pg) : Nat := cntMd c.mods
theorem bd_of_program {c : Pg} (h : cntPg c ≤ 1048576) : BdPg c := ⟨bd_md h⟩
set_option maxHeartbeats 1600000 in
set_option maxRecDepth 100000 in
theorem eq_program {base base' : Nat} {v v' : Value} {c : Pg} {bs bs' : List Nat} (w : World) (hc : BdPg c) (ha : PgE base w v c bs) (hb : PgE base' w v' c bs') :
    Calls Try.prog 38 #[v, v'] w (SeenPost (.bool true) w) := by
  obtain ⟨u, rfl, h0⟩ := ha
  obtain ⟨u', rfl, g0⟩ := hb
  have x1 := (Bx.new w 72 #[u]).alloc (.cells #[u'] 72)
  have x2 := Bx.new (w.alloc (.cells #[u] 72)) 72 #[u']
  rw [World.size_alloc] at x2
  have hB : Below w.heap.size w ((w.alloc (.cells #[u] 72)).alloc (.cells #[u'] 72)) := ((Below.refl _ _).alloc (Nat.le_refl _) _).alloc (by simp) _
  have Q := Lib.hid (eq_modules _ hc.mods ((md_ok _).later h0 hB) ((md_ok _).later g0 hB))
  obtain ⟨A1, k1, rfl⟩ := h0.slice
  obtain ⟨A2, k2, rfl⟩ := g0.slice
  generalize c.mods.length = n at *
  clear h0 g0 hc
  obtain ⟨p0, pl⟩ := x1.all1
  obtain ⟨r0, rl⟩ := x2.all1
  go_enter Try.func38, Try.ntmps38
  go_wp2_with fail
  refine Q.out.mono ?_
  rintro e w1 ⟨rfl, hb1⟩
  go_wp2
  go_ret
  exact ⟨rfl, hB.trans (hb1.mono hB.size)⟩
set_option maxHeartbeats 1600000 in
set_option maxRecDepth 100000 in
theorem sz_program {v : Value} {c : Pg} (left : Nat) (w : World) (hl : left ≤ 1048576) (ha : PgR w v c) : Calls Try.prog 34 #[v, .int .i64 (left : Int)] w fun e w' => e = .returned (.int .i64 (dec left (cntPg c))) ∧ Below w.heap.size w w' := by
  obtain ⟨u, rfl, h0⟩ := ha
  have hB : Below w.heap.size w (w.alloc (.cells #[u] 67)) := (Below.refl _ _).alloc (Nat.le_refl _) _
  have x1 := Bx.new w 67 #[u]
  have Q := sz_modules left _ hl (md_r.later h0 hB)
  obtain ⟨A1, k1, rfl, _⟩ := h0
  unfold cntPg
  generalize cntMd c.mods = t at *
  generalize c.mods.length = n at *
  obtain ⟨p0, pl⟩ := x1.all1
  by_cases h : t ≤ left
  · rw [dec_yes h] at Q ⊢
    have HQ := Lib.hid Q
    clear Q
    obtain ⟨r, hr⟩ : ∃ r, r = left - t := ⟨_, rfl⟩
    rw [← hr] at HQ ⊢
    clear hr h
    go_enter Try.func34, Try.ntmps34
    go_wp2_with fail
    refine HQ.out.mono ?_
    rintro e w1 ⟨rfl, hb1⟩
    go_wp2
    go_ret
    exact ⟨rfl, hB.trans (hb1.mono hB.size)⟩
  · rw [dec_no h] at Q ⊢
    have HQ := Lib.hid Q
    clear Q h
    go_enter Try.func34, Try.ntmps34
    go_wp2_with fail
    refine HQ.out.mono ?_
    rintro e w1 ⟨rfl, hb1⟩
    go_wp2
    go_ret
    exact ⟨rfl, hB.trans (hb1.mono hB.size)⟩
set_option maxHeartbeats 3200000 in
set_option maxRecDepth 100000 in
theorem to_program {v : Value} {c : Pg} (w : World) (hc : BdPg c) (ha : PgR w v c) : Calls Try.prog 36 #[v] w (NewPost PgE c w) := by
  obtain ⟨u, rfl, h0⟩ := ha
  have h1 := h0
  obtain ⟨A0, k0, hu, _⟩ := h1
  subst hu
  obtain ⟨n0, hn0⟩ : ∃ n, n = c.mods.length := ⟨_, rfl⟩
  rw [← hn0] at h0 ⊢
  have q1 := Lib.hid fun (W : World) (hw : Below w.heap.size w W) => to_modules W hc.mods (md_r.later h0 hw)
  obtain ⟨W0, hW0⟩ : ∃ W0, W0 = ((w.alloc (.cells #[.slice A0 n0 k0] 67)).alloc (.cells #[.slice none 0 0] 72)).alloc (.cells #[.slice none 0 0] 72) := ⟨_, rfl⟩
  have x1 : Bx W0 w.heap.size 67 #[.slice A0 n0 k0] := by rw [hW0]; exact ((Bx.new w _ _).alloc _).alloc _
  have x2 : Bx W0 (w.heap.size + 1) 72 #[.slice none 0 0] := by
    rw [hW0]
    have := (Bx.new (w.alloc (.cells #[.slice A0 n0 k0] 67)) 72 #[.slice none 0 0]).alloc (.cells #[.slice none 0 0] 72)
    rwa [World.size_alloc] at this
  have x3 : Bx W0 (w.heap.size + 1 + 1) 72 #[.slice none 0 0] := by
    rw [hW0]
    have := Bx.new ((w.alloc (.cells #[.slice A0 n0 k0] 67)).alloc (.cells #[.slice none 0 0] 72)) 72 #[.slice none 0 0]
    rwa [World.size_alloc, World.size_alloc] at this
  have hB0 : Below w.heap.size w W0 := by rw [hW0]; exact (((Below.refl _ _).alloc (Nat.le_refl _) _).alloc (by simp) _).alloc (by simp; omega) _
  have hz0 : W0.heap.size = w.heap.size + 1 + 1 + 1 := by rw [hW0]; simp
  have HW0 := Lib.hid hW0
  have Hz0 := Lib.hid hz0
  clear hW0 hz0 hc h0
  obtain ⟨p0, pl⟩ := id x1.all1
  have Hn1 := Lib.hid hn0
  clear hn0
  go_enter Try.func36, Try.ntmps36
  go_wp2_with fail
  rw [← HW0.out]
  refine (q1.out _ hB0).mono ?_
  rintro e w1 ⟨v1, bs1, rfl, E1, hb1⟩
  clear p0 pl
  have l1 := (md_ok _).lt E1
  obtain ⟨A1, k1, rfl⟩ := E1.slice
  rw [← Hn1.out] at E1 ⊢
  have HE := Lib.hid (And.intro E1 l1)
  clear E1 l1
  have y2 := x2.later hb1
  have y3 := x3.later hb1
  have hB1 := hB0.trans (hb1.mono hB0.size)
  have zf := y3.set 0 (.slice A1 n0 k1)
  have zq := y2.other 0 (.slice A1 n0 k1) (b := w.heap.size + 1 + 1) (by omega)
  have z0 := zq.set 0 (.slice A1 n0 k1)
  have g0 := z0.cell 0 (.slice A1 n0 k1) rfl
  have f1 := y3.frozen 0
  obtain ⟨d0, dl⟩ := id y3.all1
  have m0 := zf.cell 0 (.slice A1 n0 k1) rfl
  obtain ⟨e0, el⟩ := id zq.all1
  have r0 := zq.frozen 0
  have HF := Lib.hid (And.intro hB1 hb1.size)
  clear hB1 hb1 x1 x2 x3 y2 y3 hB0 zf zq z0
  go_wp2
  refine bodyPost_ret (v := .agg #[.slice A1 n0 k1]) (by simp [results, Try.results36, go_sem, g0]) rfl ?_
  have hz := Hz0.out
  have hk : ∀ b, b ≠ w.heap.size + 1 → b ≠ w.heap.size + 1 + 1 → ((w1.setCell ⟨w.heap.size + 1 + 1, 0, none⟩ (.slice A1 n0 k1)).setCell ⟨w.heap.size + 1, 0, none⟩ (.slice A1 n0 k1)).heap[b]? = w1.heap[b]? := fun b h1 h2 => by
    rw [Below.heap_setCell _ _ _ b h1, Below.heap_setCell _ _ _ b h2]
  have E1 := HE.out.1
  refine ⟨_, bs1, rfl, ⟨_, rfl, md_base (by omega) _ _ _ _ ((md_ok _).kept E1 (fun b hb => hk b (by have := HE.out.2 b hb; omega) (by have := HE.out.2 b hb; omega)))⟩, ?_⟩
  exact (HF.out.1.setCell (p := ⟨w.heap.size + 1 + 1, 0, none⟩) (by show w.heap.size ≤ w.heap.size + 1 + 1; omega) _).setCell (p := ⟨w.heap.size + 1, 0, none⟩) (by show w.heap.size ≤ w.heap.size + 1; omega) _
theorem cells_pg : Try.prog.cellsOf 67 = 1 := by kernel_rfl
theorem cells_pgm : Try.prog.cellsOf 65 = 1 := by kernel_rfl
section
variable {H : Type} {enc : TypeId × Value → H} {w : World} {held : Bool}
set_option maxRecDepth 100000 in
theorem open_program {r : Reach} {b0 : Nat} {v : Value} {d : DataW H} {p : List MemPlace} (hv : Value.okWide Try.prog w r b0 67 v) (h : DataW.Trod enc Try.prog w 0 (fun _ => true) held 67 v d p) : ∃ c, PgR w v c ∧ WfPg c := by
  obtain ⟨cs, rfl, hsz⟩ := okWide_struct Try.underlying67 hv
  rw [cells_pg] at hsz
  obtain ⟨fuel, hf⟩ := h
  obtain ⟨xs, n, _, _, _, hxl, hg⟩ := DataW.trod_struct Try.underlying67 hf
  obtain ⟨l⟩ := cs
  match l, hsz with
  | [c0], _ =>
    have hx : ∀ i, i < 1 → ∃ y, xs[i]? = some y := fun i hi => ⟨xs[i]'(by rw [hxl]; exact hi), List.getElem?_eq_getElem _⟩
    obtain ⟨y0, e0⟩ := hx 0 (by decide)
    have g0 : DataW.trod enc Try.prog w 0 (fun _ => true) held n 65 (([c0].drop 0).take (Try.prog.cellsOf 65)) = some y0 := (hg 0 _ rfl).trans e0
    rw [cells_pgm] at g0
    simp only [List.drop_zero, List.take_succ_cons, List.take_zero] at g0
    obtain ⟨t, r0, w0⟩ := read_modules g0
    exact ⟨⟨t⟩, ⟨c0, rfl, r0⟩, ⟨w0⟩⟩
end
end Go.Proofs.Ytcboalnpbmnfcaa
