import Derived.Test.YtnclhgaikglbgaaMFnPutAndCut12
import Derived.Test.YtnclhgaikglbgaaMFnPutAndCut3
import Derived.Laws.IdiomStrings
import Derived.Deep.DeepCutAuto
import Derived.Test.YtnclhgaikglbgaaMFnPutAndCut0
import Derived.WalkKit
/- A word that is drawn from bytes: among, l01Drawn, A2Word. -/
namespace Go.Proofs.Ytnclhgaikglbgaa
open Go.RowKit

/-- The list out of which l01Drawn takes a symbol's number. -/
def sevenV : Array Value := #[.int .i64 0, .int .i64 1, .int .i64 2, .int .i64 2, .int .i64 3, .int .i64 4, .int .i64 5]
theorem seven_at (w : World) (j : Nat) (h : j < 7) : ∃ x : Int, (w.alloc (.cells sevenV 2)).cell? ⟨w.heap.size, j, none⟩ = some (.int .i64 x) ∧ 0 ≤ x ∧ x ≤ 5 := by
  have e : (w.alloc (.cells sevenV 2)).cell? ⟨w.heap.size, j, none⟩ = sevenV[j]? := by simp [go_sem]
  rw [e]
  rcases (show j = 0 ∨ j = 1 ∨ j = 2 ∨ j = 3 ∨ j = 4 ∨ j = 5 ∨ j = 6 by omega) with rfl | rfl | rfl | rfl | rfl | rfl | rfl
  · exact ⟨0, rfl, by omega, by omega⟩
  · exact ⟨1, rfl, by omega, by omega⟩
  · exact ⟨2, rfl, by omega, by omega⟩
  · exact ⟨2, rfl, by omega, by omega⟩
  · exact ⟨3, rfl, by omega, by omega⟩
  · exact ⟨4, rfl, by omega, by omega⟩
  · exact ⟨5, rfl, by omega, by omega⟩

theorem CodeAt.alloc {B : Nat} {W : World} {A : Option Addr} {n : Nat} (h : CodeAt B W A n) (hB : B ≤ W.heap.size) (o : Obj) : CodeAt B (W.alloc o) A n :=
  ⟨h.le, fun j hj => by
    obtain ⟨a, x, h1, h2, h3, h4⟩ := h.byte j hj
    have e : (a.add j).block = a.block := by unfold Addr.add; split <;> rfl
    exact ⟨a, x, h1, h2, (World.cell?_of_block (Below.heap_alloc _ _ _ (by omega))).trans h3, h4⟩⟩
theorem SrcAt.alloc {w : World} {p : Nat} {A : Option Addr} {n c k : Nat} (h : SrcAt w p A n c k) (hp : p < w.heap.size) (o : Obj) : SrcAt (w.alloc o) p A n c k := by
  have hb : (w.alloc o).heap[p]? = w.heap[p]? := Below.heap_alloc _ _ _ hp
  have e (j : Nat) : (w.alloc o).cell? ⟨p, j, none⟩ = w.cell? ⟨p, j, none⟩ := World.cell?_of_block (a := ⟨p, j, none⟩) hb
  have f (j : Nat) : (w.alloc o).frozen? ⟨p, j, none⟩ = w.frozen? ⟨p, j, none⟩ := World.frozen?_of_block (a := ⟨p, j, none⟩) hb
  exact ⟨(e 0).trans h.c0, (e 1).trans h.c1, by obtain ⟨x, h1, h2⟩ := h.c2; exact ⟨x, (e 2).trans h1, h2⟩, (f 1).trans h.f1, (f 2).trans h.f2⟩

theorem draw_among (p : Nat) (A : Option Addr) (n c k : Nat) (w : World) (hp : p < w.heap.size) (hc : CodeAt p w A n) (hs : SrcAt w p A n c k) (hk : k ≤ 100000) :
    Calls Try.prog 50 #[.pointer (some ⟨p, 0, none⟩), .slice (some ⟨w.heap.size, 0, none⟩) 7 7] (w.alloc (.cells sevenV 2)) fun e w' =>
      ∃ v : Int, 0 ≤ v ∧ v ≤ 5 ∧ e = .returned (.int .i64 v) ∧ SrcAt w' p A n c (k + 1) ∧ (w.alloc (.cells sevenV 2)).grownBy w' (some p) := by
  have st := draw_pick p A n c k 7 (w.alloc (.cells sevenV 2)) (hc.alloc (by omega) _) (hs.alloc hp _) hk (by omega) (by omega)
  have St := Lib.hid st
  have Sev := Lib.hid (seven_at w)
  have hsz : (w.alloc (.cells sevenV 2)).heap.size = w.heap.size + 1 := by simp
  generalize w.alloc (.cells sevenV 2) = w0 at St Sev hsz ⊢
  clear st hc hs
  go_enter Try.func50, Try.ntmps50
  go_wp2_with fail
  refine St.out.mono ?_
  rintro e w1 ⟨v, h0, h1, rfl, hS, hG⟩
  obtain ⟨j, rfl⟩ := Int.eq_ofNat_of_zero_le h0
  have hj : j < 7 := by omega
  obtain ⟨x, hx, hx0, hx5⟩ := Sev.out j hj
  have hx1 : w1.cell? ⟨w.heap.size, j, none⟩ = some (.int .i64 x) := (World.cell?_of_block (hG.block _ (by rw [hsz]; simp) (by simp; omega))).trans hx
  go_wp2
  go_ret
  exact ⟨x, hx0, hx5, rfl, hS, hG⟩

def rowB (l : List UInt8) : List Value := l.map fun b => Value.int .u8 (b.toNat : Int)
theorem info_u8d : (Try.prog.info? 5).map (fun i => (i.zero, i.size, i.bytes)) = some (some (.int .u8 0), 1, 1) := by kernel_rfl
theorem conv_rowB {w : World} {base n g : Nat} {c : Nat} {l : List UInt8} (h : w.ownsRow base 5 1 (.slice (some ⟨g, 0, none⟩) n c) n (rowB l)) :
    (convert 22 9 (.slice (some ⟨g, 0, none⟩) n c)).run Try.prog w = .ok (.string ⟨l.toArray⟩) w := by
  have hl : l.length = n := by have := h.1; simpa [rowB] using this
  subst hl
  refine run_convert_bytes_back w 22 9 5 ⟨g, 0, none⟩ _ l Try.underlying22 Try.underlying5 Try.underlying9 fun j hj => ?_
  have h1 := h.cellAt j (by omega)
  have e : (⟨g, 0, none⟩ : Addr).add j = ⟨g, j, none⟩ := by unfold Addr.add; split <;> simp_all
  rw [e, h1]
  simp [rowB, List.getElem?_eq_getElem hj]

structure DRel (w : World) (p : Nat) (A : Option Addr) (n c : Nat) (j : Nat) (l : List UInt8) (A' : Option Addr) (c' : Nat) (wr : World) (kk : Nat) : Prop where
  len : l.length = j
  sym : AllSym l
  row : wr.ownsRow w.heap.size 5 1 (.slice A' j c') j (rowB l)
  src : SrcAt wr p A n c kk
  code : CodeAt p wr A n
  below : Below p w wr
  size : w.heap.size ≤ wr.heap.size

section
variable {w wr : World} {p : Nat} {A : Option Addr} {n c j : Nat} {l : List UInt8} {A' : Option Addr} {c' kk : Nat}
theorem DRel.alloc (h : DRel w p A n c j l A' c' wr kk) (hp : p < w.heap.size) (o : Obj) : DRel w p A n c j l A' c' (wr.alloc o) kk := by
  have hs := h.size
  exact ⟨h.len, h.sym, h.row.alloc o, h.src.alloc (by omega) o, h.code.alloc (by omega) o, h.below.alloc (by omega) o, by simp; omega⟩
theorem DRel.drawn {w2 : World} (h : DRel w p A n c j l A' c' wr kk) (hp : p < w.heap.size) (hs2 : SrcAt w2 p A n c (kk + 1)) (hg : wr.grownBy w2 (some p)) : DRel w p A n c j l A' c' w2 (kk + 1) := by
  have hs := h.size
  have hne : (Value.slice A' j c').ownBlock = none ∨ (Value.slice A' j c').ownBlock ≠ some p := by
    cases hv : (Value.slice A' j c').ownBlock with
    | none => exact .inl rfl
    | some g =>
      refine .inr fun e => ?_
      have := (h.row.lt g hv).1
      simp at e
      omega
  exact ⟨h.len, h.sym, h.row.kept hg hne, hs2, h.code.grown (Nat.le_refl _) (by omega) hg, h.below.grown hg (by omega) (fun k e => by cases e; omega), Nat.le_trans hs hg.size⟩
theorem DRel.snoc {w3 : World} {v' : Value} {o : Obj} {b : UInt8} (h : DRel w p A n c j l A' c' wr kk) (hp : p < w.heap.size) (hb : 0 ≤ symNo (b.toNat : Int))
    (hown : w3.ownsRow w.heap.size 5 1 v' (j + 1) (rowB l ++ [.int .u8 (b.toNat : Int)])) (hg : (wr.alloc o).grownBy w3 (Value.slice A' j c').ownBlock) :
    ∃ g1 c1, v' = .slice (some ⟨g1, 0, none⟩) (j + 1) c1 ∧ DRel w p A n c (j + 1) (l ++ [b]) (some ⟨g1, 0, none⟩) c1 w3 kk := by
  have hs := h.size
  obtain ⟨g1, c1, rfl⟩ := ownsRow_succ hown
  have h0 := h.alloc hp o
  have hr : ∀ r, (Value.slice A' j c').ownBlock = some r → w.heap.size ≤ r := fun r e => (h.row.lt r e).1
  have hp2 : p < (wr.alloc o).heap.size := by simp; omega
  have hblk : w3.heap[p]? = (wr.alloc o).heap[p]? := hg.block p hp2 (fun e => by have := hr p e.symm; omega)
  have e (i : Nat) : w3.cell? ⟨p, i, none⟩ = (wr.alloc o).cell? ⟨p, i, none⟩ := World.cell?_of_block (a := ⟨p, i, none⟩) hblk
  have f (i : Nat) : w3.frozen? ⟨p, i, none⟩ = (wr.alloc o).frozen? ⟨p, i, none⟩ := World.frozen?_of_block (a := ⟨p, i, none⟩) hblk
  refine ⟨g1, c1, rfl, by simp [h.len], fun x hx => ?_, by simpa [rowB] using hown, ?_, ?_, h0.below.grown hg (by omega) (fun k e => by have := hr k e; omega), Nat.le_trans h0.size hg.size⟩
  · rcases List.mem_append.1 hx with hx | hx
    · exact h.sym x hx
    · simp only [List.mem_singleton] at hx; subst hx; exact hb
  · exact ⟨(e 0).trans h0.src.c0, (e 1).trans h0.src.c1, by obtain ⟨x, h1, h2⟩ := h0.src.c2; exact ⟨x, (e 2).trans h1, h2⟩, (f 1).trans h0.src.f1, (f 2).trans h0.src.f2⟩
  · exact ⟨h0.code.le, fun i hi => by
      obtain ⟨a, x, h1, h2, h3, h4⟩ := h0.code.byte i hi
      have eb : (a.add i).block = a.block := by unfold Addr.add; split <;> rfl
      exact ⟨a, x, h1, h2, (World.cell?_of_block (hg.block _ (by omega) (fun e => by have := hr _ e.symm; omega))).trans h3, h4⟩⟩
end
end Go.Proofs.Ytnclhgaikglbgaa
/- A word that is drawn from bytes: l01Drawn, A2Word: whatever the bytes, it is one, and not too long. -/
namespace Go.Proofs.Ytnclhgaikglbgaa
open Go.RowKit
set_option linter.unusedVariables false

theorem retB_40 : retB 40 = false := by decide
theorem callB_40 : callB 40 = true := by decide
theorem retB_91 : retB 91 = false := by decide
theorem callB_91 : callB 91 = true := by decide
theorem retB_41 : retB 41 = true := by decide
theorem callB_41 : callB 41 = false := by decide
theorem retB_93 : retB 93 = true := by decide
theorem callB_93 : callB 93 = false := by decide
theorem retB_97 : retB 97 = false := by decide
theorem callB_97 : callB 97 = false := by decide
theorem retB_98 : retB 98 = false := by decide
theorem callB_98 : callB 98 = false := by decide

set_option maxHeartbeats 64000000 in
set_option maxRecDepth 100000 in
theorem draw_word (p : Nat) (A : Option Addr) (n c k m : Nat) (w : World) (hp : p < w.heap.size) (hc : CodeAt p w A n) (hs : SrcAt w p A n c k) (hk : k ≤ 50000) (hm : 1 ≤ m) (hm2 : m ≤ 60) :
    Calls Try.prog 29 #[.pointer (some ⟨p, 0, none⟩), .int .i64 (m : Int)] w fun e w' => ∃ t : ByteArray, e = .returned (.string t) ∧ t.size ≤ m ∧ AllSym t.data.toList ∧ Below p w w' := by
  obtain ⟨i0, hi, hz0, hz1, hz2⟩ := info_parts info_u8d
  have e0 : (({ data := #[40, 91, 41, 93, 97, 98] } : ByteArray)[0]'(by decide)).toNat = 40 := rfl
  have e1 : (({ data := #[40, 91, 41, 93, 97, 98] } : ByteArray)[1]'(by decide)).toNat = 91 := rfl
  have e2 : (({ data := #[40, 91, 41, 93, 97, 98] } : ByteArray)[2]'(by decide)).toNat = 41 := rfl
  have e3 : (({ data := #[40, 91, 41, 93, 97, 98] } : ByteArray)[3]'(by decide)).toNat = 93 := rfl
  have e4 : (({ data := #[40, 91, 41, 93, 97, 98] } : ByteArray)[4]'(by decide)).toNat = 97 := rfl
  have e5 : (({ data := #[40, 91, 41, 93, 97, 98] } : ByteArray)[5]'(by decide)).toNat = 98 := rfl
  have start : DRel w p A n c 0 [] (some ⟨w.heap.size, 0, none⟩) 0 (w.alloc (.cells #[] 5)) k := by
    refine ⟨rfl, fun _ h => (by cases h), ?_, hs.alloc hp _, hc.alloc (by omega) _, (Below.refl _ _).alloc (by omega) _, by simp⟩
    have h := World.ownsRow_lit (base := w.heap.size) (e := 5) (size := 1) w #[] 0 (by simp) (by unfold maxLen; omega) rfl
    simpa [rowB] using h
  have Start := Lib.hid start
  clear start hc hs
  go_enter Try.func29, Try.ntmps29
  go_wp2_with fail
  refine (draw_one p A n c k 3 _ Start.out.code Start.out.src (by omega) (by omega) (by omega)).mono ?_
  rintro e w1 ⟨tb, rfl, hS1, hG1⟩
  have R1 := Start.out.drawn hp hS1 hG1
  cases tb with
  | true =>
    go_wp2_with fail
    refine (draw_pick p A n c (k + 1) ((m : Int) + 1) _ R1.code R1.src (by omega) (by omega) (by omega)).mono ?_
    rintro e w2 ⟨v, hv0, hv1, rfl, hS2, hG2⟩
    have R2 := R1.drawn hp hS2 hG2
    obtain ⟨r0, rfl⟩ := Int.eq_ofNat_of_zero_le hv0
    have hr0 : r0 ≤ m := by omega
    clear Start hS1 hG1 R1 hS2 hG2 hv0 hv1
    go_wp2
    go_loopw [5, 6, 8] (fun y d i wr => ∃ (j r dd kk g c' : Nat) (l : List UInt8), j + r ≤ m ∧ i = .int .i64 (r : Int) ∧ d = .int .i64 (dd : Int) ∧ dd ≤ j ∧ y = .slice (some ⟨g, 0, none⟩) j c' ∧ kk ≤ k + 2 + 2 * j ∧ DRel w p A n c j l (some ⟨g, 0, none⟩) c' wr kk) (fun _ _ i _ => (intOf i).toNat)
    case atStart => exact ⟨0, r0, 0, k + 2, _, _, [], by omega, rfl, rfl, Nat.le_refl _, rfl, by omega, R2⟩
    case round =>
      clear R2
      obtain ⟨j, r, dd, kk, g, c', l, hjr, rfl, rfl, hdd, rfl, hkk, R⟩ := hrel
      have hsz := R.size
      cases r with
      | zero =>
        have hjm : j ≤ m := by omega
        clear e0 e1 e2 e3 e4 e5 hjr
        rw [show ((0 : Nat) : Int) = 0 from rfl]
        go_wp2_with fail
        go_loopw [5, 6] (fun y d wr => ∃ (j dd kk g c' : Nat) (l : List UInt8), j ≤ m ∧ d = .int .i64 (dd : Int) ∧ y = .slice (some ⟨g, 0, none⟩) j c' ∧ kk ≤ k + 2 + 2 * j ∧ dd ≤ 60 ∧ DRel w p A n c j l (some ⟨g, 0, none⟩) c' wr kk) (fun _ d _ => (intOf d).toNat)
        case atStart => exact ⟨j, dd, kk, g, c', l, hjm, rfl, rfl, hkk, by omega, R⟩
        case round =>
          clear R hjm hkk hdd hsz
          obtain ⟨j, dd, kk, g, c', l, hjm, rfl, rfl, hkk, hdd, R⟩ := hrel
          have hsz := R.size
          have hcv := conv_rowB R.row
          have Fin := Lib.hid (And.intro R.len (And.intro R.sym R.below))
          go_wp2
          go_ret
          exact ⟨_, rfl, by show l.toArray.size ≤ m; simp; rw [Fin.out.1]; exact hjm, by simpa using Fin.out.2.1, Fin.out.2.2⟩
      | succ r =>
        cases dd with
        | zero =>
          go_wp2_with fail
          refine (draw_among p A n c kk wr (by omega) R.code R.src (by omega)).mono ?_
          rintro e w3 ⟨v, hv0, hv5, rfl, hS3, hG3⟩
          have R3 := (R.alloc hp _).drawn hp hS3 hG3
          have hsz3 := R3.size
          clear hS3 hG3 R
          obtain rfl | rfl | rfl | rfl | rfl | rfl : v = 0 ∨ v = 1 ∨ v = 2 ∨ v = 3 ∨ v = 4 ∨ v = 5 := by omega
          · go_wp2_with (first
              | (go_at_call 51; refine (spec_return _ _).mono ?_; rintro e w' ⟨rfl, rfl⟩; first | rw [retB_40] | rw [retB_40])
              | (go_at_call 52; refine (spec_call _ _).mono ?_; rintro e w' ⟨rfl, rfl⟩; first | rw [callB_40] | rw [callB_40])
              | (at_builtin; refine wpList_append_own _ rfl _ _ 22 rfl w.heap.size 5 i0 (.int .u8 0) 1 1 Try.underlying22 hi hz0 hz1 hz2 rfl (by decide) _ _ _ rfl (R3.row.alloc _) ⟨w3.heap.size, 0, none⟩ 1 1 [.int .u8 40] rfl rfl (cell_one_new _ _ _) ?c2 ?c3 ?c4 ?c5 ?_))
            case c2 => simp [Value.oneCell']
            case c3 => unfold maxLen; omega
            case c4 => omega
            case c5 => simp; omega
            intro v' w4 hown hg2 _
            obtain ⟨g1, c1, rfl, R4⟩ := R3.snoc (b := 40) hp (by decide) hown hg2
            clear hown hg2 R3
            go_wp2
            go_roundw
            case rel => exact ⟨j + 1, r, 1, kk + 1, g1, c1, _, by omega, by go_num, by first | rfl | go_num, by omega, rfl, by omega, R4⟩
            case measure => simp [intOf]
          · go_wp2_with (first
              | (go_at_call 51; refine (spec_return _ _).mono ?_; rintro e w' ⟨rfl, rfl⟩; first | rw [retB_91] | rw [retB_91])
              | (go_at_call 52; refine (spec_call _ _).mono ?_; rintro e w' ⟨rfl, rfl⟩; first | rw [callB_91] | rw [callB_91])
              | (at_builtin; refine wpList_append_own _ rfl _ _ 22 rfl w.heap.size 5 i0 (.int .u8 0) 1 1 Try.underlying22 hi hz0 hz1 hz2 rfl (by decide) _ _ _ rfl (R3.row.alloc _) ⟨w3.heap.size, 0, none⟩ 1 1 [.int .u8 91] rfl rfl (cell_one_new _ _ _) ?c2 ?c3 ?c4 ?c5 ?_))
            case c2 => simp [Value.oneCell']
            case c3 => unfold maxLen; omega
            case c4 => omega
            case c5 => simp; omega
            intro v' w4 hown hg2 _
            obtain ⟨g1, c1, rfl, R4⟩ := R3.snoc (b := 91) hp (by decide) hown hg2
            clear hown hg2 R3
            go_wp2
            go_roundw
            case rel => exact ⟨j + 1, r, 1, kk + 1, g1, c1, _, by omega, by go_num, by first | rfl | go_num, by omega, rfl, by omega, R4⟩
            case measure => simp [intOf]
          · go_wp2_with (first
              | (go_at_call 51; refine (spec_return _ _).mono ?_; rintro e w' ⟨rfl, rfl⟩; first | rw [retB_41] | rw [retB_41])
              | (go_at_call 52; refine (spec_call _ _).mono ?_; rintro e w' ⟨rfl, rfl⟩; first | rw [callB_41] | rw [callB_41])
              | (at_builtin; refine wpList_append_own _ rfl _ _ 22 rfl w.heap.size 5 i0 (.int .u8 0) 1 1 Try.underlying22 hi hz0 hz1 hz2 rfl (by decide) _ _ _ rfl (R3.row.alloc _) ⟨w3.heap.size, 0, none⟩ 1 1 [.int .u8 41] rfl rfl (cell_one_new _ _ _) ?c2 ?c3 ?c4 ?c5 ?_))
            case c2 => simp [Value.oneCell']
            case c3 => unfold maxLen; omega
            case c4 => omega
            case c5 => simp; omega
            intro v' w4 hown hg2 _
            obtain ⟨g1, c1, rfl, R4⟩ := R3.snoc (b := 41) hp (by decide) hown hg2
            clear hown hg2 R3
            go_wp2
            go_roundw
            case rel => exact ⟨j + 1, r, 0, kk + 1, g1, c1, _, by omega, by go_num, by first | rfl | go_num, by omega, rfl, by omega, R4⟩
            case measure => simp [intOf]
          · go_wp2_with (first
              | (go_at_call 51; refine (spec_return _ _).mono ?_; rintro e w' ⟨rfl, rfl⟩; first | rw [retB_93] | rw [retB_93])
              | (go_at_call 52; refine (spec_call _ _).mono ?_; rintro e w' ⟨rfl, rfl⟩; first | rw [callB_93] | rw [callB_93])
              | (at_builtin; refine wpList_append_own _ rfl _ _ 22 rfl w.heap.size 5 i0 (.int .u8 0) 1 1 Try.underlying22 hi hz0 hz1 hz2 rfl (by decide) _ _ _ rfl (R3.row.alloc _) ⟨w3.heap.size, 0, none⟩ 1 1 [.int .u8 93] rfl rfl (cell_one_new _ _ _) ?c2 ?c3 ?c4 ?c5 ?_))
            case c2 => simp [Value.oneCell']
            case c3 => unfold maxLen; omega
            case c4 => omega
            case c5 => simp; omega
            intro v' w4 hown hg2 _
            obtain ⟨g1, c1, rfl, R4⟩ := R3.snoc (b := 93) hp (by decide) hown hg2
            clear hown hg2 R3
            go_wp2
            go_roundw
            case rel => exact ⟨j + 1, r, 0, kk + 1, g1, c1, _, by omega, by go_num, by first | rfl | go_num, by omega, rfl, by omega, R4⟩
            case measure => simp [intOf]
          · go_wp2_with (first
              | (go_at_call 51; refine (spec_return _ _).mono ?_; rintro e w' ⟨rfl, rfl⟩; first | rw [retB_97] | rw [retB_97])
              | (go_at_call 52; refine (spec_call _ _).mono ?_; rintro e w' ⟨rfl, rfl⟩; first | rw [callB_97] | rw [callB_97])
              | (at_builtin; refine wpList_append_own _ rfl _ _ 22 rfl w.heap.size 5 i0 (.int .u8 0) 1 1 Try.underlying22 hi hz0 hz1 hz2 rfl (by decide) _ _ _ rfl (R3.row.alloc _) ⟨w3.heap.size, 0, none⟩ 1 1 [.int .u8 97] rfl rfl (cell_one_new _ _ _) ?c2 ?c3 ?c4 ?c5 ?_))
            case c2 => simp [Value.oneCell']
            case c3 => unfold maxLen; omega
            case c4 => omega
            case c5 => simp; omega
            intro v' w4 hown hg2 _
            obtain ⟨g1, c1, rfl, R4⟩ := R3.snoc (b := 97) hp (by decide) hown hg2
            clear hown hg2 R3
            go_wp2
            go_roundw
            case rel => exact ⟨j + 1, r, 0, kk + 1, g1, c1, _, by omega, by go_num, by first | rfl | go_num, by omega, rfl, by omega, R4⟩
            case measure => simp [intOf]
          · go_wp2_with (first
              | (go_at_call 51; refine (spec_return _ _).mono ?_; rintro e w' ⟨rfl, rfl⟩; first | rw [retB_98] | rw [retB_98])
              | (go_at_call 52; refine (spec_call _ _).mono ?_; rintro e w' ⟨rfl, rfl⟩; first | rw [callB_98] | rw [callB_98])
              | (at_builtin; refine wpList_append_own _ rfl _ _ 22 rfl w.heap.size 5 i0 (.int .u8 0) 1 1 Try.underlying22 hi hz0 hz1 hz2 rfl (by decide) _ _ _ rfl (R3.row.alloc _) ⟨w3.heap.size, 0, none⟩ 1 1 [.int .u8 98] rfl rfl (cell_one_new _ _ _) ?c2 ?c3 ?c4 ?c5 ?_))
            case c2 => simp [Value.oneCell']
            case c3 => unfold maxLen; omega
            case c4 => omega
            case c5 => simp; omega
            intro v' w4 hown hg2 _
            obtain ⟨g1, c1, rfl, R4⟩ := R3.snoc (b := 98) hp (by decide) hown hg2
            clear hown hg2 R3
            go_wp2
            go_roundw
            case rel => exact ⟨j + 1, r, 0, kk + 1, g1, c1, _, by omega, by go_num, by first | rfl | go_num, by omega, rfl, by omega, R4⟩
            case measure => simp [intOf]
        | succ dd =>
          go_wp2_with fail
          refine (draw_among p A n c kk wr (by omega) R.code R.src (by omega)).mono ?_
          rintro e w3 ⟨v, hv0, hv5, rfl, hS3, hG3⟩
          have R3 := (R.alloc hp _).drawn hp hS3 hG3
          have hsz3 := R3.size
          clear hS3 hG3 R
          obtain rfl | rfl | rfl | rfl | rfl | rfl : v = 0 ∨ v = 1 ∨ v = 2 ∨ v = 3 ∨ v = 4 ∨ v = 5 := by omega
          · go_wp2_with (first
              | (go_at_call 51; refine (spec_return _ _).mono ?_; rintro e w' ⟨rfl, rfl⟩; first | rw [retB_40] | rw [retB_40])
              | (go_at_call 52; refine (spec_call _ _).mono ?_; rintro e w' ⟨rfl, rfl⟩; first | rw [callB_40] | rw [callB_40])
              | (at_builtin; refine wpList_append_own _ rfl _ _ 22 rfl w.heap.size 5 i0 (.int .u8 0) 1 1 Try.underlying22 hi hz0 hz1 hz2 rfl (by decide) _ _ _ rfl (R3.row.alloc _) ⟨w3.heap.size, 0, none⟩ 1 1 [.int .u8 40] rfl rfl (cell_one_new _ _ _) ?c2 ?c3 ?c4 ?c5 ?_))
            case c2 => simp [Value.oneCell']
            case c3 => unfold maxLen; omega
            case c4 => omega
            case c5 => simp; omega
            intro v' w4 hown hg2 _
            obtain ⟨g1, c1, rfl, R4⟩ := R3.snoc (b := 40) hp (by decide) hown hg2
            clear hown hg2 R3
            go_wp2
            go_roundw
            case rel => exact ⟨j + 1, r, dd + 1 + 1, kk + 1, g1, c1, _, by omega, by go_num, by first | rfl | go_num, by omega, rfl, by omega, R4⟩
            case measure => simp [intOf]
          · go_wp2_with (first
              | (go_at_call 51; refine (spec_return _ _).mono ?_; rintro e w' ⟨rfl, rfl⟩; first | rw [retB_91] | rw [retB_91])
              | (go_at_call 52; refine (spec_call _ _).mono ?_; rintro e w' ⟨rfl, rfl⟩; first | rw [callB_91] | rw [callB_91])
              | (at_builtin; refine wpList_append_own _ rfl _ _ 22 rfl w.heap.size 5 i0 (.int .u8 0) 1 1 Try.underlying22 hi hz0 hz1 hz2 rfl (by decide) _ _ _ rfl (R3.row.alloc _) ⟨w3.heap.size, 0, none⟩ 1 1 [.int .u8 91] rfl rfl (cell_one_new _ _ _) ?c2 ?c3 ?c4 ?c5 ?_))
            case c2 => simp [Value.oneCell']
            case c3 => unfold maxLen; omega
            case c4 => omega
            case c5 => simp; omega
            intro v' w4 hown hg2 _
            obtain ⟨g1, c1, rfl, R4⟩ := R3.snoc (b := 91) hp (by decide) hown hg2
            clear hown hg2 R3
            go_wp2
            go_roundw
            case rel => exact ⟨j + 1, r, dd + 1 + 1, kk + 1, g1, c1, _, by omega, by go_num, by first | rfl | go_num, by omega, rfl, by omega, R4⟩
            case measure => simp [intOf]
          · go_wp2_with (first
              | (go_at_call 51; refine (spec_return _ _).mono ?_; rintro e w' ⟨rfl, rfl⟩; first | rw [retB_41] | rw [retB_41])
              | (go_at_call 52; refine (spec_call _ _).mono ?_; rintro e w' ⟨rfl, rfl⟩; first | rw [callB_41] | rw [callB_41])
              | (at_builtin; refine wpList_append_own _ rfl _ _ 22 rfl w.heap.size 5 i0 (.int .u8 0) 1 1 Try.underlying22 hi hz0 hz1 hz2 rfl (by decide) _ _ _ rfl (R3.row.alloc _) ⟨w3.heap.size, 0, none⟩ 1 1 [.int .u8 41] rfl rfl (cell_one_new _ _ _) ?c2 ?c3 ?c4 ?c5 ?_))
            case c2 => simp [Value.oneCell']
            case c3 => unfold maxLen; omega
            case c4 => omega
            case c5 => simp; omega
            intro v' w4 hown hg2 _
            obtain ⟨g1, c1, rfl, R4⟩ := R3.snoc (b := 41) hp (by decide) hown hg2
            clear hown hg2 R3
            go_wp2
            go_roundw
            case rel => exact ⟨j + 1, r, dd, kk + 1, g1, c1, _, by omega, by go_num, by first | rfl | go_num, by omega, rfl, by omega, R4⟩
            case measure => simp [intOf]
          · go_wp2_with (first
              | (go_at_call 51; refine (spec_return _ _).mono ?_; rintro e w' ⟨rfl, rfl⟩; first | rw [retB_93] | rw [retB_93])
              | (go_at_call 52; refine (spec_call _ _).mono ?_; rintro e w' ⟨rfl, rfl⟩; first | rw [callB_93] | rw [callB_93])
              | (at_builtin; refine wpList_append_own _ rfl _ _ 22 rfl w.heap.size 5 i0 (.int .u8 0) 1 1 Try.underlying22 hi hz0 hz1 hz2 rfl (by decide) _ _ _ rfl (R3.row.alloc _) ⟨w3.heap.size, 0, none⟩ 1 1 [.int .u8 93] rfl rfl (cell_one_new _ _ _) ?c2 ?c3 ?c4 ?c5 ?_))
            case c2 => simp [Value.oneCell']
            case c3 => unfold maxLen; omega
            case c4 => omega
            case c5 => simp; omega
            intro v' w4 hown hg2 _
            obtain ⟨g1, c1, rfl, R4⟩ := R3.snoc (b := 93) hp (by decide) hown hg2
            clear hown hg2 R3
            go_wp2
            go_roundw
            case rel => exact ⟨j + 1, r, dd, kk + 1, g1, c1, _, by omega, by go_num, by first | rfl | go_num, by omega, rfl, by omega, R4⟩
            case measure => simp [intOf]
          · go_wp2_with (first
              | (go_at_call 51; refine (spec_return _ _).mono ?_; rintro e w' ⟨rfl, rfl⟩; first | rw [retB_97] | rw [retB_97])
              | (go_at_call 52; refine (spec_call _ _).mono ?_; rintro e w' ⟨rfl, rfl⟩; first | rw [callB_97] | rw [callB_97])
              | (at_builtin; refine wpList_append_own _ rfl _ _ 22 rfl w.heap.size 5 i0 (.int .u8 0) 1 1 Try.underlying22 hi hz0 hz1 hz2 rfl (by decide) _ _ _ rfl (R3.row.alloc _) ⟨w3.heap.size, 0, none⟩ 1 1 [.int .u8 97] rfl rfl (cell_one_new _ _ _) ?c2 ?c3 ?c4 ?c5 ?_))
            case c2 => simp [Value.oneCell']
            case c3 => unfold maxLen; omega
            case c4 => omega
            case c5 => simp; omega
            intro v' w4 hown hg2 _
            obtain ⟨g1, c1, rfl, R4⟩ := R3.snoc (b := 97) hp (by decide) hown hg2
            clear hown hg2 R3
            go_wp2
            go_roundw
            case rel => exact ⟨j + 1, r, dd + 1, kk + 1, g1, c1, _, by omega, by go_num, by first | rfl | go_num, by omega, rfl, by omega, R4⟩
            case measure => simp [intOf]
          · go_wp2_with (first
              | (go_at_call 51; refine (spec_return _ _).mono ?_; rintro e w' ⟨rfl, rfl⟩; first | rw [retB_98] | rw [retB_98])
              | (go_at_call 52; refine (spec_call _ _).mono ?_; rintro e w' ⟨rfl, rfl⟩; first | rw [callB_98] | rw [callB_98])
              | (at_builtin; refine wpList_append_own _ rfl _ _ 22 rfl w.heap.size 5 i0 (.int .u8 0) 1 1 Try.underlying22 hi hz0 hz1 hz2 rfl (by decide) _ _ _ rfl (R3.row.alloc _) ⟨w3.heap.size, 0, none⟩ 1 1 [.int .u8 98] rfl rfl (cell_one_new _ _ _) ?c2 ?c3 ?c4 ?c5 ?_))
            case c2 => simp [Value.oneCell']
            case c3 => unfold maxLen; omega
            case c4 => omega
            case c5 => simp; omega
            intro v' w4 hown hg2 _
            obtain ⟨g1, c1, rfl, R4⟩ := R3.snoc (b := 98) hp (by decide) hown hg2
            clear hown hg2 R3
            go_wp2
            go_roundw
            case rel => exact ⟨j + 1, r, dd + 1, kk + 1, g1, c1, _, by omega, by go_num, by first | rfl | go_num, by omega, rfl, by omega, R4⟩
            case measure => simp [intOf]
  | false =>
    go_wp2_with fail
    refine (draw_pick p A n c (k + 1) ((m : Int) + 1) _ R1.code R1.src (by omega) (by omega) (by omega)).mono ?_
    rintro e w2 ⟨v, hv0, hv1, rfl, hS2, hG2⟩
    have R2 := R1.drawn hp hS2 hG2
    obtain ⟨r0, rfl⟩ := Int.eq_ofNat_of_zero_le hv0
    have hr0 : r0 ≤ m := by omega
    clear Start hS1 hG1 R1 hS2 hG2 hv0 hv1
    go_wp2
    go_loopw [5, 6, 8] (fun y d i wr => ∃ (j r dd kk g c' : Nat) (l : List UInt8), j + r ≤ m ∧ i = .int .i64 (r : Int) ∧ d = .int .i64 (dd : Int) ∧ dd ≤ j ∧ y = .slice (some ⟨g, 0, none⟩) j c' ∧ kk ≤ k + 2 + 2 * j ∧ DRel w p A n c j l (some ⟨g, 0, none⟩) c' wr kk) (fun _ _ i _ => (intOf i).toNat)
    case atStart => exact ⟨0, r0, 0, k + 2, _, _, [], by omega, rfl, rfl, Nat.le_refl _, rfl, by omega, R2⟩
    case round =>
      clear R2
      obtain ⟨j, r, dd, kk, g, c', l, hjr, rfl, rfl, hdd, rfl, hkk, R⟩ := hrel
      have hsz := R.size
      cases r with
      | zero =>
        have hjm : j ≤ m := by omega
        clear e0 e1 e2 e3 e4 e5 hjr
        rw [show ((0 : Nat) : Int) = 0 from rfl]
        go_wp2_with fail
        go_loopw [5, 6] (fun y d wr => ∃ (j dd kk g c' : Nat) (l : List UInt8), j ≤ m ∧ d = .int .i64 (dd : Int) ∧ y = .slice (some ⟨g, 0, none⟩) j c' ∧ kk ≤ k + 2 + 2 * j ∧ dd ≤ 60 ∧ DRel w p A n c j l (some ⟨g, 0, none⟩) c' wr kk) (fun _ d _ => (intOf d).toNat)
        case atStart => exact ⟨j, dd, kk, g, c', l, hjm, rfl, rfl, hkk, by omega, R⟩
        case round =>
          clear R hjm hkk hdd hsz
          obtain ⟨j, dd, kk, g, c', l, hjm, rfl, rfl, hkk, hdd, R⟩ := hrel
          have hsz := R.size
          have hcv := conv_rowB R.row
          have Fin := Lib.hid (And.intro R.len (And.intro R.sym R.below))
          cases dd with
          | zero =>
            go_wp2
            go_ret
            exact ⟨_, rfl, by show l.toArray.size ≤ m; simp; rw [Fin.out.1]; exact hjm, by simpa using Fin.out.2.1, Fin.out.2.2⟩
          | succ dd =>
            by_cases hlt : j < m
            · go_wp2_with fail
              refine (draw_one p A n c kk 8 _ R.code R.src (by omega) (by omega) (by omega)).mono ?_
              rintro e w3 ⟨bb, rfl, hS3, hG3⟩
              have R3 := R.drawn hp hS3 hG3
              clear hS3 hG3 hcv Fin
              have hcv := conv_rowB R3.row
              have Fin := Lib.hid (And.intro R3.len (And.intro R3.sym R3.below))
              cases bb with
              | true =>
                go_wp2
                go_ret
                exact ⟨_, rfl, by show l.toArray.size ≤ m; simp; rw [Fin.out.1]; exact hjm, by simpa using Fin.out.2.1, Fin.out.2.2⟩
              | false =>
                clear hcv Fin
                go_wp2_with fail
                refine (draw_pick p A n c (kk + 1) 2 _ R3.code R3.src (by omega) (by omega) (by omega)).mono ?_
                rintro e w4 ⟨v, hv0, hv1, rfl, hS4, hG4⟩
                have R4 := R3.drawn hp hS4 hG4
                have hsz4 := R4.size
                clear hS4 hG4 R3 R
                have f0 : (({ data := #[41, 93] } : ByteArray)[0]'(by decide)).toNat = 41 := rfl
                have f1 : (({ data := #[41, 93] } : ByteArray)[1]'(by decide)).toNat = 93 := rfl
                obtain rfl | rfl : v = 0 ∨ v = 1 := by omega
                · go_wp2_with (at_builtin; refine wpList_append_own _ rfl _ _ 22 rfl w.heap.size 5 i0 (.int .u8 0) 1 1 Try.underlying22 hi hz0 hz1 hz2 rfl (by decide) _ _ _ rfl (R4.row.alloc _) ⟨w4.heap.size, 0, none⟩ 1 1 [.int .u8 41] rfl rfl (cell_one_new _ _ _) ?c2 ?c3 ?c4 ?c5 ?_)
                  case c2 => simp [Value.oneCell']
                  case c3 => unfold maxLen; omega
                  case c4 => omega
                  case c5 => simp; omega
                  intro v' w5 hown hg2 _
                  obtain ⟨g1, c1, rfl, R5⟩ := R4.snoc (b := 41) hp (by decide) hown hg2
                  clear hown hg2 R4
                  go_wp2
                  go_roundw
                  case rel => exact ⟨j + 1, dd, kk + 1 + 1, g1, c1, _, by omega, by go_num, rfl, by omega, by omega, R5⟩
                  case measure => simp [intOf]
                · go_wp2_with (at_builtin; refine wpList_append_own _ rfl _ _ 22 rfl w.heap.size 5 i0 (.int .u8 0) 1 1 Try.underlying22 hi hz0 hz1 hz2 rfl (by decide) _ _ _ rfl (R4.row.alloc _) ⟨w4.heap.size, 0, none⟩ 1 1 [.int .u8 93] rfl rfl (cell_one_new _ _ _) ?c2 ?c3 ?c4 ?c5 ?_)
                  case c2 => simp [Value.oneCell']
                  case c3 => unfold maxLen; omega
                  case c4 => omega
                  case c5 => simp; omega
                  intro v' w5 hown hg2 _
                  obtain ⟨g1, c1, rfl, R5⟩ := R4.snoc (b := 93) hp (by decide) hown hg2
                  clear hown hg2 R4
                  go_wp2
                  go_roundw
                  case rel => exact ⟨j + 1, dd, kk + 1 + 1, g1, c1, _, by omega, by go_num, rfl, by omega, by omega, R5⟩
                  case measure => simp [intOf]
            · go_wp2
              go_ret
              exact ⟨_, rfl, by show l.toArray.size ≤ m; simp; rw [Fin.out.1]; exact hjm, by simpa using Fin.out.2.1, Fin.out.2.2⟩
      | succ r =>
        cases dd with
        | zero =>
          go_wp2_with fail
          refine (draw_among p A n c kk wr (by omega) R.code R.src (by omega)).mono ?_
          rintro e w3 ⟨v, hv0, hv5, rfl, hS3, hG3⟩
          have R3 := (R.alloc hp _).drawn hp hS3 hG3
          have hsz3 := R3.size
          clear hS3 hG3 R
          obtain rfl | rfl | rfl | rfl | rfl | rfl : v = 0 ∨ v = 1 ∨ v = 2 ∨ v = 3 ∨ v = 4 ∨ v = 5 := by omega
          · go_wp2_with (first
              | (go_at_call 51; refine (spec_return _ _).mono ?_; rintro e w' ⟨rfl, rfl⟩; first | rw [retB_40] | rw [retB_40])
              | (go_at_call 52; refine (spec_call _ _).mono ?_; rintro e w' ⟨rfl, rfl⟩; first | rw [callB_40] | rw [callB_40])
              | (at_builtin; refine wpList_append_own _ rfl _ _ 22 rfl w.heap.size 5 i0 (.int .u8 0) 1 1 Try.underlying22 hi hz0 hz1 hz2 rfl (by decide) _ _ _ rfl (R3.row.alloc _) ⟨w3.heap.size, 0, none⟩ 1 1 [.int .u8 40] rfl rfl (cell_one_new _ _ _) ?c2 ?c3 ?c4 ?c5 ?_))
            case c2 => simp [Value.oneCell']
            case c3 => unfold maxLen; omega
            case c4 => omega
            case c5 => simp; omega
            intro v' w4 hown hg2 _
            obtain ⟨g1, c1, rfl, R4⟩ := R3.snoc (b := 40) hp (by decide) hown hg2
            clear hown hg2 R3
            go_wp2
            go_roundw
            case rel => exact ⟨j + 1, r, 1, kk + 1, g1, c1, _, by omega, by go_num, by first | rfl | go_num, by omega, rfl, by omega, R4⟩
            case measure => simp [intOf]
          · go_wp2_with (first
              | (go_at_call 51; refine (spec_return _ _).mono ?_; rintro e w' ⟨rfl, rfl⟩; first | rw [retB_91] | rw [retB_91])
              | (go_at_call 52; refine (spec_call _ _).mono ?_; rintro e w' ⟨rfl, rfl⟩; first | rw [callB_91] | rw [callB_91])
              | (at_builtin; refine wpList_append_own _ rfl _ _ 22 rfl w.heap.size 5 i0 (.int .u8 0) 1 1 Try.underlying22 hi hz0 hz1 hz2 rfl (by decide) _ _ _ rfl (R3.row.alloc _) ⟨w3.heap.size, 0, none⟩ 1 1 [.int .u8 91] rfl rfl (cell_one_new _ _ _) ?c2 ?c3 ?c4 ?c5 ?_))
            case c2 => simp [Value.oneCell']
            case c3 => unfold maxLen; omega
            case c4 => omega
            case c5 => simp; omega
            intro v' w4 hown hg2 _
            obtain ⟨g1, c1, rfl, R4⟩ := R3.snoc (b := 91) hp (by decide) hown hg2
            clear hown hg2 R3
            go_wp2
            go_roundw
            case rel => exact ⟨j + 1, r, 1, kk + 1, g1, c1, _, by omega, by go_num, by first | rfl | go_num, by omega, rfl, by omega, R4⟩
            case measure => simp [intOf]
          · go_wp2_with (first
              | (go_at_call 51; refine (spec_return _ _).mono ?_; rintro e w' ⟨rfl, rfl⟩; first | rw [retB_41] | rw [retB_40])
              | (go_at_call 52; refine (spec_call _ _).mono ?_; rintro e w' ⟨rfl, rfl⟩; first | rw [callB_41] | rw [callB_40])
              | (at_builtin; refine wpList_append_own _ rfl _ _ 22 rfl w.heap.size 5 i0 (.int .u8 0) 1 1 Try.underlying22 hi hz0 hz1 hz2 rfl (by decide) _ _ _ rfl (R3.row.alloc _) ⟨w3.heap.size, 0, none⟩ 1 1 [.int .u8 40] rfl rfl (cell_one_new _ _ _) ?c2 ?c3 ?c4 ?c5 ?_))
            case c2 => simp [Value.oneCell']
            case c3 => unfold maxLen; omega
            case c4 => omega
            case c5 => simp; omega
            intro v' w4 hown hg2 _
            obtain ⟨g1, c1, rfl, R4⟩ := R3.snoc (b := 40) hp (by decide) hown hg2
            clear hown hg2 R3
            go_wp2
            go_roundw
            case rel => exact ⟨j + 1, r, 1, kk + 1, g1, c1, _, by omega, by go_num, by first | rfl | go_num, by omega, rfl, by omega, R4⟩
            case measure => simp [intOf]
          · go_wp2_with (first
              | (go_at_call 51; refine (spec_return _ _).mono ?_; rintro e w' ⟨rfl, rfl⟩; first | rw [retB_93] | rw [retB_40])
              | (go_at_call 52; refine (spec_call _ _).mono ?_; rintro e w' ⟨rfl, rfl⟩; first | rw [callB_93] | rw [callB_40])
              | (at_builtin; refine wpList_append_own _ rfl _ _ 22 rfl w.heap.size 5 i0 (.int .u8 0) 1 1 Try.underlying22 hi hz0 hz1 hz2 rfl (by decide) _ _ _ rfl (R3.row.alloc _) ⟨w3.heap.size, 0, none⟩ 1 1 [.int .u8 40] rfl rfl (cell_one_new _ _ _) ?c2 ?c3 ?c4 ?c5 ?_))
            case c2 => simp [Value.oneCell']
            case c3 => unfold maxLen; omega
            case c4 => omega
            case c5 => simp; omega
            intro v' w4 hown hg2 _
            obtain ⟨g1, c1, rfl, R4⟩ := R3.snoc (b := 40) hp (by decide) hown hg2
            clear hown hg2 R3
            go_wp2
            go_roundw
            case rel => exact ⟨j + 1, r, 1, kk + 1, g1, c1, _, by omega, by go_num, by first | rfl | go_num, by omega, rfl, by omega, R4⟩
            case measure => simp [intOf]
          · go_wp2_with (first
              | (go_at_call 51; refine (spec_return _ _).mono ?_; rintro e w' ⟨rfl, rfl⟩; first | rw [retB_97] | rw [retB_97])
              | (go_at_call 52; refine (spec_call _ _).mono ?_; rintro e w' ⟨rfl, rfl⟩; first | rw [callB_97] | rw [callB_97])
              | (at_builtin; refine wpList_append_own _ rfl _ _ 22 rfl w.heap.size 5 i0 (.int .u8 0) 1 1 Try.underlying22 hi hz0 hz1 hz2 rfl (by decide) _ _ _ rfl (R3.row.alloc _) ⟨w3.heap.size, 0, none⟩ 1 1 [.int .u8 97] rfl rfl (cell_one_new _ _ _) ?c2 ?c3 ?c4 ?c5 ?_))
            case c2 => simp [Value.oneCell']
            case c3 => unfold maxLen; omega
            case c4 => omega
            case c5 => simp; omega
            intro v' w4 hown hg2 _
            obtain ⟨g1, c1, rfl, R4⟩ := R3.snoc (b := 97) hp (by decide) hown hg2
            clear hown hg2 R3
            go_wp2
            go_roundw
            case rel => exact ⟨j + 1, r, 0, kk + 1, g1, c1, _, by omega, by go_num, by first | rfl | go_num, by omega, rfl, by omega, R4⟩
            case measure => simp [intOf]
          · go_wp2_with (first
              | (go_at_call 51; refine (spec_return _ _).mono ?_; rintro e w' ⟨rfl, rfl⟩; first | rw [retB_98] | rw [retB_98])
              | (go_at_call 52; refine (spec_call _ _).mono ?_; rintro e w' ⟨rfl, rfl⟩; first | rw [callB_98] | rw [callB_98])
              | (at_builtin; refine wpList_append_own _ rfl _ _ 22 rfl w.heap.size 5 i0 (.int .u8 0) 1 1 Try.underlying22 hi hz0 hz1 hz2 rfl (by decide) _ _ _ rfl (R3.row.alloc _) ⟨w3.heap.size, 0, none⟩ 1 1 [.int .u8 98] rfl rfl (cell_one_new _ _ _) ?c2 ?c3 ?c4 ?c5 ?_))
            case c2 => simp [Value.oneCell']
            case c3 => unfold maxLen; omega
            case c4 => omega
            case c5 => simp; omega
            intro v' w4 hown hg2 _
            obtain ⟨g1, c1, rfl, R4⟩ := R3.snoc (b := 98) hp (by decide) hown hg2
            clear hown hg2 R3
            go_wp2
            go_roundw
            case rel => exact ⟨j + 1, r, 0, kk + 1, g1, c1, _, by omega, by go_num, by first | rfl | go_num, by omega, rfl, by omega, R4⟩
            case measure => simp [intOf]
        | succ dd =>
          go_wp2_with fail
          refine (draw_among p A n c kk wr (by omega) R.code R.src (by omega)).mono ?_
          rintro e w3 ⟨v, hv0, hv5, rfl, hS3, hG3⟩
          have R3 := (R.alloc hp _).drawn hp hS3 hG3
          have hsz3 := R3.size
          clear hS3 hG3 R
          obtain rfl | rfl | rfl | rfl | rfl | rfl : v = 0 ∨ v = 1 ∨ v = 2 ∨ v = 3 ∨ v = 4 ∨ v = 5 := by omega
          · go_wp2_with (first
              | (go_at_call 51; refine (spec_return _ _).mono ?_; rintro e w' ⟨rfl, rfl⟩; first | rw [retB_40] | rw [retB_40])
              | (go_at_call 52; refine (spec_call _ _).mono ?_; rintro e w' ⟨rfl, rfl⟩; first | rw [callB_40] | rw [callB_40])
              | (at_builtin; refine wpList_append_own _ rfl _ _ 22 rfl w.heap.size 5 i0 (.int .u8 0) 1 1 Try.underlying22 hi hz0 hz1 hz2 rfl (by decide) _ _ _ rfl (R3.row.alloc _) ⟨w3.heap.size, 0, none⟩ 1 1 [.int .u8 40] rfl rfl (cell_one_new _ _ _) ?c2 ?c3 ?c4 ?c5 ?_))
            case c2 => simp [Value.oneCell']
            case c3 => unfold maxLen; omega
            case c4 => omega
            case c5 => simp; omega
            intro v' w4 hown hg2 _
            obtain ⟨g1, c1, rfl, R4⟩ := R3.snoc (b := 40) hp (by decide) hown hg2
            clear hown hg2 R3
            go_wp2
            go_roundw
            case rel => exact ⟨j + 1, r, dd + 1 + 1, kk + 1, g1, c1, _, by omega, by go_num, by first | rfl | go_num, by omega, rfl, by omega, R4⟩
            case measure => simp [intOf]
          · go_wp2_with (first
              | (go_at_call 51; refine (spec_return _ _).mono ?_; rintro e w' ⟨rfl, rfl⟩; first | rw [retB_91] | rw [retB_91])
              | (go_at_call 52; refine (spec_call _ _).mono ?_; rintro e w' ⟨rfl, rfl⟩; first | rw [callB_91] | rw [callB_91])
              | (at_builtin; refine wpList_append_own _ rfl _ _ 22 rfl w.heap.size 5 i0 (.int .u8 0) 1 1 Try.underlying22 hi hz0 hz1 hz2 rfl (by decide) _ _ _ rfl (R3.row.alloc _) ⟨w3.heap.size, 0, none⟩ 1 1 [.int .u8 91] rfl rfl (cell_one_new _ _ _) ?c2 ?c3 ?c4 ?c5 ?_))
            case c2 => simp [Value.oneCell']
            case c3 => unfold maxLen; omega
            case c4 => omega
            case c5 => simp; omega
            intro v' w4 hown hg2 _
            obtain ⟨g1, c1, rfl, R4⟩ := R3.snoc (b := 91) hp (by decide) hown hg2
            clear hown hg2 R3
            go_wp2
            go_roundw
            case rel => exact ⟨j + 1, r, dd + 1 + 1, kk + 1, g1, c1, _, by omega, by go_num, by first | rfl | go_num, by omega, rfl, by omega, R4⟩
            case measure => simp [intOf]
          · go_wp2_with (first
              | (go_at_call 51; refine (spec_return _ _).mono ?_; rintro e w' ⟨rfl, rfl⟩; first | rw [retB_41] | rw [retB_41])
              | (go_at_call 52; refine (spec_call _ _).mono ?_; rintro e w' ⟨rfl, rfl⟩; first | rw [callB_41] | rw [callB_41])
              | (at_builtin; refine wpList_append_own _ rfl _ _ 22 rfl w.heap.size 5 i0 (.int .u8 0) 1 1 Try.underlying22 hi hz0 hz1 hz2 rfl (by decide) _ _ _ rfl (R3.row.alloc _) ⟨w3.heap.size, 0, none⟩ 1 1 [.int .u8 41] rfl rfl (cell_one_new _ _ _) ?c2 ?c3 ?c4 ?c5 ?_))
            case c2 => simp [Value.oneCell']
            case c3 => unfold maxLen; omega
            case c4 => omega
            case c5 => simp; omega
            intro v' w4 hown hg2 _
            obtain ⟨g1, c1, rfl, R4⟩ := R3.snoc (b := 41) hp (by decide) hown hg2
            clear hown hg2 R3
            go_wp2
            go_roundw
            case rel => exact ⟨j + 1, r, dd, kk + 1, g1, c1, _, by omega, by go_num, by first | rfl | go_num, by omega, rfl, by omega, R4⟩
            case measure => simp [intOf]
          · go_wp2_with (first
              | (go_at_call 51; refine (spec_return _ _).mono ?_; rintro e w' ⟨rfl, rfl⟩; first | rw [retB_93] | rw [retB_93])
              | (go_at_call 52; refine (spec_call _ _).mono ?_; rintro e w' ⟨rfl, rfl⟩; first | rw [callB_93] | rw [callB_93])
              | (at_builtin; refine wpList_append_own _ rfl _ _ 22 rfl w.heap.size 5 i0 (.int .u8 0) 1 1 Try.underlying22 hi hz0 hz1 hz2 rfl (by decide) _ _ _ rfl (R3.row.alloc _) ⟨w3.heap.size, 0, none⟩ 1 1 [.int .u8 93] rfl rfl (cell_one_new _ _ _) ?c2 ?c3 ?c4 ?c5 ?_))
            case c2 => simp [Value.oneCell']
            case c3 => unfold maxLen; omega
            case c4 => omega
            case c5 => simp; omega
            intro v' w4 hown hg2 _
            obtain ⟨g1, c1, rfl, R4⟩ := R3.snoc (b := 93) hp (by decide) hown hg2
            clear hown hg2 R3
            go_wp2
            go_roundw
            case rel => exact ⟨j + 1, r, dd, kk + 1, g1, c1, _, by omega, by go_num, by first | rfl | go_num, by omega, rfl, by omega, R4⟩
            case measure => simp [intOf]
          · go_wp2_with (first
              | (go_at_call 51; refine (spec_return _ _).mono ?_; rintro e w' ⟨rfl, rfl⟩; first | rw [retB_97] | rw [retB_97])
              | (go_at_call 52; refine (spec_call _ _).mono ?_; rintro e w' ⟨rfl, rfl⟩; first | rw [callB_97] | rw [callB_97])
              | (at_builtin; refine wpList_append_own _ rfl _ _ 22 rfl w.heap.size 5 i0 (.int .u8 0) 1 1 Try.underlying22 hi hz0 hz1 hz2 rfl (by decide) _ _ _ rfl (R3.row.alloc _) ⟨w3.heap.size, 0, none⟩ 1 1 [.int .u8 97] rfl rfl (cell_one_new _ _ _) ?c2 ?c3 ?c4 ?c5 ?_))
            case c2 => simp [Value.oneCell']
            case c3 => unfold maxLen; omega
            case c4 => omega
            case c5 => simp; omega
            intro v' w4 hown hg2 _
            obtain ⟨g1, c1, rfl, R4⟩ := R3.snoc (b := 97) hp (by decide) hown hg2
            clear hown hg2 R3
            go_wp2
            go_roundw
            case rel => exact ⟨j + 1, r, dd + 1, kk + 1, g1, c1, _, by omega, by go_num, by first | rfl | go_num, by omega, rfl, by omega, R4⟩
            case measure => simp [intOf]
          · go_wp2_with (first
              | (go_at_call 51; refine (spec_return _ _).mono ?_; rintro e w' ⟨rfl, rfl⟩; first | rw [retB_98] | rw [retB_98])
              | (go_at_call 52; refine (spec_call _ _).mono ?_; rintro e w' ⟨rfl, rfl⟩; first | rw [callB_98] | rw [callB_98])
              | (at_builtin; refine wpList_append_own _ rfl _ _ 22 rfl w.heap.size 5 i0 (.int .u8 0) 1 1 Try.underlying22 hi hz0 hz1 hz2 rfl (by decide) _ _ _ rfl (R3.row.alloc _) ⟨w3.heap.size, 0, none⟩ 1 1 [.int .u8 98] rfl rfl (cell_one_new _ _ _) ?c2 ?c3 ?c4 ?c5 ?_))
            case c2 => simp [Value.oneCell']
            case c3 => unfold maxLen; omega
            case c4 => omega
            case c5 => simp; omega
            intro v' w4 hown hg2 _
            obtain ⟨g1, c1, rfl, R4⟩ := R3.snoc (b := 98) hp (by decide) hown hg2
            clear hown hg2 R3
            go_wp2
            go_roundw
            case rel => exact ⟨j + 1, r, dd + 1, kk + 1, g1, c1, _, by omega, by go_num, by first | rfl | go_num, by omega, rfl, by omega, R4⟩
            case measure => simp [intOf]

theorem draw_A2Word {A : Option Addr} {n c m : Nat} (w : World) (hc : CodeAt w.heap.size w A n) (hm : 1 ≤ m) (hm2 : m ≤ 60) :
    Calls Try.prog 8 #[.slice A n c, .int .i64 (m : Int)] w fun e w' => ∃ t : ByteArray, e = .returned (.string t) ∧ IsW t ∧ t.size ≤ m ∧ Below w.heap.size w w' := by
  have hq := fun w1 h1 => draw_word w.heap.size A n c 0 m w1 h1
  have Hc := Lib.hid hc
  have Hq := Lib.hid hq
  clear hc hq
  go_enter Try.func8, Try.ntmps8
  go_wp2_with fail
  refine (draw_from A n c w).mono ?_
  rintro e w1 ⟨rfl, hS, rfl⟩
  have Hw := Lib.hid (Hq.out _ (by simp) (Hc.out.alloc (Nat.le_refl _) _) hS (by omega) hm hm2)
  clear hS
  go_wp2_with fail
  refine Hw.out.mono ?_
  rintro e w2 ⟨t, rfl, h1, h2, h3⟩
  have hb := ((Below.refl w.heap.size w).alloc (Nat.le_refl _) (.cells #[.slice A n c, .int .i64 0, .int .u64 0] 73)).trans h3
  clear h3
  go_wp2
  go_ret
  exact ⟨t, rfl, ⟨by omega, h2⟩, h1, hb⟩
end Go.Proofs.Ytnclhgaikglbgaa
/- The table of counts: plain mathematics of how it is filled, and of its cells. -/
namespace Go.Proofs.Ytnclhgaikglbgaa
open Go.RowKit

/-- What the table holds while the row l is filled: the places in front of o are done, that at o has the texts that go on with one of the first s symbols. -/
def tabF (l o s i : Nat) : Int :=
  if i / 22 < l then (wy (i / 22) (i % 22) : Int) else if i / 22 = l then (if i % 22 < o then (wy l (i % 22) : Int) else if i % 22 = o then (cbs (l - 1) o s : Int) else 0) else 0
def tabA (l o s : Nat) : Array Value := ((List.range 462).map fun i => Value.int .i64 (tabF l o s i)).toArray
theorem tabA_size (l o s : Nat) : (tabA l o s).size = 462 := by simp [tabA]
theorem tabA_at {l o s i : Nat} (h : i < 462) : (tabA l o s)[i]? = some (.int .i64 (tabF l o s i)) := by
  simp [tabA, h]
theorem tabA_done {l o s r d : Nat} (hr : r < l) (hl : r ≤ 20) (hd : d ≤ 21) : (tabA l o s)[r * 22 + d]? = some (.int .i64 (wy r d : Int)) := by
  rw [tabA_at (by omega)]
  unfold tabF
  rw [show (r * 22 + d) / 22 = r by omega, show (r * 22 + d) % 22 = d by omega, if_pos hr]
theorem tabA_here {l o s : Nat} (hl : l ≤ 20) (ho : o ≤ 21) : (tabA l o s)[l * 22 + o]? = some (.int .i64 (cbs (l - 1) o s : Int)) := by
  rw [tabA_at (by omega)]
  unfold tabF
  rw [show (l * 22 + o) / 22 = l by omega, show (l * 22 + o) % 22 = o by omega, if_neg (by omega), if_pos rfl, if_neg (by omega), if_pos rfl]
theorem tabA_ext {l o s l' o' s' : Nat} (h : ∀ i, i < 462 → tabF l o s i = tabF l' o' s' i) : tabA l o s = tabA l' o' s' := by
  unfold tabA
  congr 1
  exact List.map_congr_left fun i hi => by rw [h i (List.mem_range.1 hi)]
theorem tabA_more {l o s : Nat} (hl : l ≤ 20) (ho : o ≤ 21) : (tabA l o s).setIfInBounds (l * 22 + o) (.int .i64 ((cbs (l - 1) o s : Int) + (cb (l - 1) o s : Int))) = tabA l o (s + 1) := by
  apply Array.ext_getElem?
  intro i
  rw [Array.getElem?_setIfInBounds, tabA_size]
  by_cases hi : i < 462
  · rw [tabA_at hi, tabA_at hi]
    by_cases e : l * 22 + o = i
    · subst e
      rw [if_pos rfl, if_pos (by omega)]
      unfold tabF
      rw [show (l * 22 + o) / 22 = l by omega, show (l * 22 + o) % 22 = o by omega, if_neg (by omega), if_pos rfl, if_neg (by omega), if_pos rfl, cbs]
      simp
    · rw [if_neg e]
      unfold tabF
      by_cases h1 : i / 22 < l
      · rw [if_pos h1, if_pos h1]
      · rw [if_neg h1, if_neg h1]
        by_cases h2 : i / 22 = l
        · rw [if_pos h2, if_pos h2]
          by_cases h3 : i % 22 < o
          · rw [if_pos h3, if_pos h3]
          · rw [if_neg h3, if_neg h3, if_neg (by omega), if_neg (by omega)]
        · rw [if_neg h2, if_neg h2]
  · rw [if_neg (by omega), Array.getElem?_eq_none (by rw [tabA_size]; omega), Array.getElem?_eq_none (by rw [tabA_size]; omega)]
theorem tabA_next {l o : Nat} (hl : 1 ≤ l) : tabA l o 6 = tabA l (o + 1) 0 := tabA_ext fun i hi => by
  unfold tabF
  by_cases h1 : i / 22 < l
  · rw [if_pos h1, if_pos h1]
  · rw [if_neg h1, if_neg h1]
    by_cases h2 : i / 22 = l
    · rw [if_pos h2, if_pos h2, cbs_six, show l - 1 + 1 = l by omega]
      by_cases h3 : i % 22 < o
      · rw [if_pos h3, if_pos (by omega)]
      · rw [if_neg h3]
        by_cases h4 : i % 22 = o
        · rw [if_pos h4, if_pos (by omega), h4]
        · rw [if_neg h4, if_neg (by omega)]
          split <;> rfl
    · rw [if_neg h2, if_neg h2]
theorem tabA_row {l : Nat} (hl : l ≤ 20) : tabA l 21 0 = tabA (l + 1) 0 0 := tabA_ext fun i hi => by
  unfold tabF
  by_cases h1 : i / 22 < l
  · rw [if_pos h1, if_pos (by omega)]
  · rw [if_neg h1]
    by_cases h2 : i / 22 = l
    · rw [if_pos h2, if_pos (show i / 22 < l + 1 by omega), h2]
      by_cases h3 : i % 22 < 21
      · rw [if_pos h3]
      · have h4 : i % 22 = 21 := by omega
        rw [if_neg h3, if_pos h4, h4, wy_zero l 21 (by omega)]; rfl
    · rw [if_neg h2, if_neg (by omega)]
      by_cases h3 : i / 22 = l + 1
      · rw [if_pos h3, if_neg (by omega)]
        split <;> rfl
      · rw [if_neg h3]
theorem tabA_first : (Array.replicate 462 (.int .i64 0) : Array Value).setIfInBounds 0 (.int .i64 1) = tabA 1 0 0 := by
  apply Array.ext_getElem?
  intro i
  rw [Array.getElem?_setIfInBounds]
  simp only [Array.size_replicate]
  by_cases hi : i < 462
  · rw [tabA_at hi, Array.getElem?_replicate, if_pos hi]
    by_cases e : 0 = i
    · subst e; rw [if_pos rfl, if_pos (by omega)]; rfl
    · rw [if_neg e]
      unfold tabF
      by_cases h1 : i / 22 < 1
      · rw [if_pos h1, show i / 22 = 0 by omega, wy_zero 0 (i % 22) (by omega)]; rfl
      · rw [if_neg h1]
        split
        · rw [if_neg (by omega)]
          split <;> rfl
        · rfl
  · rw [if_neg (by omega), Array.getElem?_eq_none (by simp; omega), Array.getElem?_eq_none (by rw [tabA_size]; omega)]
theorem wy_wrap {n d : Nat} (h : n ≤ 20) : (wy n d : Int) ≤ 3656158440062976 := by have := wy_top h d; omega
end Go.Proofs.Ytnclhgaikglbgaa
