/- readForRun and Takes of the program. -/
import Derived.Test.YtcboalnpbmnfcaaRunI
namespace Go.Proofs.Ytcboalnpbmnfcaa
open Go.RowKit
set_option linter.unusedVariables false

/-- What a checker and a word must be. -/
def GivenM (c : Ck) (s : ByteArray) : Prop := IsW s ∧ okM c = true
def ForNo (w : World) (e : Ending) (w' : World) : Prop := e = .returned (.tuple #[.agg #[.slice none 0 0, .slice none 0 0], .int .i64 1]) ∧ Below w.heap.size w w'
def ForYes (n : Nat) (l : List UInt8) (w : World) (e : Ending) (w' : World) : Prop :=
  ∃ g M, e = .returned (.tuple #[.agg #[.slice (some ⟨g, 0, none⟩) n n, .slice (some ⟨M, 0, none⟩) n n], .int .i64 0]) ∧
    w'.ownsRow w.heap.size 162 1 (.slice (some ⟨g, 0, none⟩) n n) n (symsV (symL l)) ∧ w'.ownsRow w.heap.size 2 1 (.slice (some ⟨M, 0, none⟩) n n) n (numsV (prts (ksOf l))) ∧ Below w.heap.size w w'

section
variable {base : Nat} {va vc vr vi : Value} {c : Ck} {bsC : List Nat}
set_option maxHeartbeats 1600000 in
set_option maxRecDepth 100000 in
theorem impl_for_no (s : ByteArray) (w : World) (hs : s.size ≤ 1048576) (hbd : BdC c) (hck : CkE base w (.agg #[.int .i64 c.stack, .int .i64 c.start, va, vc, vr, vi]) c bsC) (h : ¬ GivenM c s) :
    Calls Try.prog 49 #[.agg #[.int .i64 c.stack, .int .i64 c.start, va, vc, vr, vi], .string s] w (ForNo w) := by
  have hB0 := (Below.refl w.heap.size w).alloc (Nat.le_refl _) (.cells #[.int .i64 c.stack, .int .i64 c.start, va, vc, vr, vi] 33)
  have hbx := (Box6.new w (.int .i64 c.stack) (.int .i64 c.start) va vc vr vi 33).later ((Below.refl _ _).alloc (Nat.le_refl _) (.cells #[.slice none 0 0, .slice none 0 0] 88))
  have hrx := Bx.new (w.alloc (.cells #[.int .i64 c.stack, .int .i64 c.start, va, vc, vr, vi] 33)) 88 #[.slice none 0 0, .slice none 0 0]
  rw [World.size_alloc] at hrx
  have HB0 := Lib.hid (hB0.alloc (by simp) (.cells #[.slice none 0 0, .slice none 0 0] 88))
  by_cases hw : IsW s
  · have hok : okM c = false := by
      rcases Bool.eq_false_or_eq_true (okM c) with e | e
      · exact absurd ⟨hw, e⟩ h
      · exact e
    have hv := fun (W : World) (hW : Below w.heap.size w W) => impl_ValidChecker W hbd ((ck_ok _).later hck hW)
    rw [hok] at hv
    have Hv := Lib.hid hv
    have Hw := Lib.hid hw
    clear hv hw hok h hck hbd
    obtain ⟨t0, ht0⟩ : ∃ t, t = c.stack := ⟨_, rfl⟩
    obtain ⟨t1, ht1⟩ : ∃ t, t = c.start := ⟨_, rfl⟩
    rw [← ht0, ← ht1] at Hv HB0 hbx hrx ⊢
    clear ht0 ht1 hB0
    obtain ⟨W0, hW0⟩ : ∃ W0, W0 = (w.alloc (.cells #[.int .i64 t0, .int .i64 t1, va, vc, vr, vi] 33)).alloc (.cells #[.slice none 0 0, .slice none 0 0] 88) := ⟨_, rfl⟩
    rw [← hW0] at HB0 hbx hrx
    have HW0 := Lib.hid hW0
    have hsz0 := HB0.out.size
    clear hW0
    go_enter Try.func49, Try.ntmps49
    go_wp2_with fail
    rw [← HW0.out]
    refine (impl_read_yes _ _ Hw.out.1 Hw.out.2).mono ?_
    rintro e w1 ⟨M, rfl, hsy, hps, hb1⟩
    have hA : Below w.heap.size w w1 := HB0.out.trans (hb1.mono hsz0)
    have hbx1 := hbx.later hb1
    have hbx2 := fun o => hbx1.later ((Below.refl _ w1).alloc (Nat.le_refl _) o)
    have e0 := fun o => (hbx2 o).c0
    have e1 := fun o => (hbx2 o).c1
    have e2 := fun o => (hbx2 o).c2
    have e3 := fun o => (hbx2 o).c3
    have e4 := fun o => (hbx2 o).c4
    have e5 := fun o => (hbx2 o).c5
    have HA2 := Lib.hid fun o => hA.alloc hA.size o
    have hrx2 := fun o => (hrx.later hb1).alloc o
    have Hsy := Lib.hid hsy
    have Hps := Lib.hid hps
    clear hbx2 hsy hps hbx hbx1
    go_wp2_with fail
    refine (Hv.out _ (HA2.out _)).mono ?_
    rintro e w2 ⟨rfl, hb2⟩
    have hr2 := (hrx2 _).later hb2
    have q0 : w2.cell? ⟨w.heap.size + 1, 0, none⟩ = some (.slice none 0 0) := hr2.cell 0 _ rfl
    have q1 : w2.cell? ⟨w.heap.size + 1, 1, none⟩ = some (.slice none 0 0) := hr2.cell 1 _ rfl
    have f0 := hr2.frozen 0
    have f1 := hr2.frozen 1
    have HE := Lib.hid (((HA2.out _).trans (hb2.mono (HA2.out _).size)))
    go_wp2
    exact bodyPost_ret (v := .tuple #[.agg #[.slice none 0 0, .slice none 0 0], .int .i64 1]) (by simp [results, Try.results49, go_sem, q0, q1]) rfl
      ⟨rfl, (HE.out.setCell (p := ⟨w.heap.size + 1, 0, none⟩) (by simp) _).setCell (p := ⟨w.heap.size + 1, 1, none⟩) (by simp) _⟩
  · have Hw := Lib.hid hw
    have Hv := Lib.hid (True.intro)
    clear hw h hck hbd
    obtain ⟨t0, ht0⟩ : ∃ t, t = c.stack := ⟨_, rfl⟩
    obtain ⟨t1, ht1⟩ : ∃ t, t = c.start := ⟨_, rfl⟩
    rw [← ht0, ← ht1] at HB0 hrx ⊢
    clear ht0 ht1 hB0 hbx
    obtain ⟨W0, hW0⟩ : ∃ W0, W0 = (w.alloc (.cells #[.int .i64 t0, .int .i64 t1, va, vc, vr, vi] 33)).alloc (.cells #[.slice none 0 0, .slice none 0 0] 88) := ⟨_, rfl⟩
    rw [← hW0] at HB0 hrx
    have HW0 := Lib.hid hW0
    have hsz0 := HB0.out.size
    clear hW0
    go_enter Try.func49, Try.ntmps49
    go_wp2_with fail
    rw [← HW0.out]
    refine (impl_read_no _ _ hs Hw.out).mono ?_
    rintro e w1 ⟨rfl, hb1⟩
    have hA : Below w.heap.size w w1 := HB0.out.trans (hb1.mono hsz0)
    have hr2 := fun o => (hrx.later hb1).alloc o
    have q0 : ∀ o, (w1.alloc o).cell? ⟨w.heap.size + 1, 0, none⟩ = some (.slice none 0 0) := fun o => (hr2 o).cell 0 _ rfl
    have q1 : ∀ o, (w1.alloc o).cell? ⟨w.heap.size + 1, 1, none⟩ = some (.slice none 0 0) := fun o => (hr2 o).cell 1 _ rfl
    have f0 := fun o => (hr2 o).frozen 0
    have f1 := fun o => (hr2 o).frozen 1
    have HE := Lib.hid fun o => hA.alloc hA.size o
    clear hr2 hrx
    go_wp2
    exact bodyPost_ret (v := .tuple #[.agg #[.slice none 0 0, .slice none 0 0], .int .i64 1]) (by simp [results, Try.results49, go_sem, q0, q1]) rfl
      ⟨rfl, ((HE.out _).setCell (p := ⟨w.heap.size + 1, 0, none⟩) (by simp) _).setCell (p := ⟨w.heap.size + 1, 1, none⟩) (by simp) _⟩

set_option maxHeartbeats 1600000 in
set_option maxRecDepth 100000 in
theorem impl_for_yes (s : ByteArray) (w : World) (hbd : BdC c) (hck : CkE base w (.agg #[.int .i64 c.stack, .int .i64 c.start, va, vc, vr, vi]) c bsC) (h : GivenM c s) :
    Calls Try.prog 49 #[.agg #[.int .i64 c.stack, .int .i64 c.start, va, vc, vr, vi], .string s] w (ForYes s.size s.data.toList w) := by
  have hB0 := (Below.refl w.heap.size w).alloc (Nat.le_refl _) (.cells #[.int .i64 c.stack, .int .i64 c.start, va, vc, vr, vi] 33)
  have hbx := (Box6.new w (.int .i64 c.stack) (.int .i64 c.start) va vc vr vi 33).later ((Below.refl _ _).alloc (Nat.le_refl _) (.cells #[.slice none 0 0, .slice none 0 0] 88))
  have hrx := Bx.new (w.alloc (.cells #[.int .i64 c.stack, .int .i64 c.start, va, vc, vr, vi] 33)) 88 #[.slice none 0 0, .slice none 0 0]
  rw [World.size_alloc] at hrx
  have HB0 := Lib.hid (hB0.alloc (by simp) (.cells #[.slice none 0 0, .slice none 0 0] 88))
  obtain ⟨hw, hok⟩ := h
  · have hv := fun (W : World) (hW : Below w.heap.size w W) => impl_ValidChecker W hbd ((ck_ok _).later hck hW)
    rw [hok] at hv
    have Hv := Lib.hid hv
    have Hw := Lib.hid hw
    clear hv hw hok hck hbd
    obtain ⟨t0, ht0⟩ : ∃ t, t = c.stack := ⟨_, rfl⟩
    obtain ⟨t1, ht1⟩ : ∃ t, t = c.start := ⟨_, rfl⟩
    rw [← ht0, ← ht1] at Hv HB0 hbx hrx ⊢
    clear ht0 ht1 hB0
    obtain ⟨W0, hW0⟩ : ∃ W0, W0 = (w.alloc (.cells #[.int .i64 t0, .int .i64 t1, va, vc, vr, vi] 33)).alloc (.cells #[.slice none 0 0, .slice none 0 0] 88) := ⟨_, rfl⟩
    rw [← hW0] at HB0 hbx hrx
    have HW0 := Lib.hid hW0
    have hsz0 := HB0.out.size
    clear hW0
    go_enter Try.func49, Try.ntmps49
    go_wp2_with fail
    rw [← HW0.out]
    refine (impl_read_yes _ _ Hw.out.1 Hw.out.2).mono ?_
    rintro e w1 ⟨M, rfl, hsy, hps, hb1⟩
    have hA : Below w.heap.size w w1 := HB0.out.trans (hb1.mono hsz0)
    have hbx1 := hbx.later hb1
    have hbx2 := fun o => hbx1.later ((Below.refl _ w1).alloc (Nat.le_refl _) o)
    have e0 := fun o => (hbx2 o).c0
    have e1 := fun o => (hbx2 o).c1
    have e2 := fun o => (hbx2 o).c2
    have e3 := fun o => (hbx2 o).c3
    have e4 := fun o => (hbx2 o).c4
    have e5 := fun o => (hbx2 o).c5
    have HA2 := Lib.hid fun o => hA.alloc hA.size o
    have hrx2 := fun o => (hrx.later hb1).alloc o
    have Hsy := Lib.hid hsy
    have Hps := Lib.hid hps
    have hn1 : W0.heap.size + 1 + 1 < w1.heap.size := (hsy.lt _ rfl).2
    have hM1 : M < w1.heap.size := (hps.lt _ rfl).2
    have hM0 : W0.heap.size ≤ M := (hps.lt _ rfl).1
    have hr0 : w.heap.size + 1 < W0.heap.size := hrx.lt
    clear hbx2 hsy hps hbx hbx1
    go_wp2_with fail
    refine (Hv.out _ (HA2.out _)).mono ?_
    rintro e w2 ⟨rfl, hb2⟩
    have hr2 := (hrx2 _).later hb2
    have q0 : w2.cell? ⟨w.heap.size + 1, 0, none⟩ = some (.slice none 0 0) := hr2.cell 0 _ rfl
    have hb3 : Below w1.heap.size w1 w2 := ((Below.refl _ w1).alloc (Nat.le_refl _) _).trans (hb2.mono (by simp))
    have hsy2 := row_base (row_below Hsy.out hb3) hsz0
    have hps2 := row_base (row_below Hps.out hb3) hsz0
    have keep : ∀ (b : Nat) (u v : Value), b ≠ w.heap.size + 1 → ((w2.setCell ⟨w.heap.size + 1, 0, none⟩ u).setCell ⟨w.heap.size + 1, 1, none⟩ v).heap[b]? = w2.heap[b]? := fun b u v hb => (Below.heap_setCell _ _ _ b hb).trans (Below.heap_setCell _ _ _ b hb)
    have Hsy2 := Lib.hid fun (u v : Value) => row_kept hsy2 (w' := (w2.setCell ⟨w.heap.size + 1, 0, none⟩ u).setCell ⟨w.heap.size + 1, 1, none⟩ v) (fun b hb => keep b u v (by
      have : b = W0.heap.size + 1 + 1 := by simpa [Value.ownBlock] using hb
      omega))
    have Hps2 := Lib.hid fun (u v : Value) => row_kept hps2 (w' := (w2.setCell ⟨w.heap.size + 1, 0, none⟩ u).setCell ⟨w.heap.size + 1, 1, none⟩ v) (fun b hb => keep b u v (by
      have : b = M := by simpa [Value.ownBlock] using hb
      omega))
    have hbM := hb2.cell (p := ⟨w1.heap.size, 0, none⟩) (by simp)
    have hbM1 := hb2.cell (p := ⟨w1.heap.size, 1, none⟩) (by simp)
    simp only [World.cell?_alloc_new] at hbM hbM1
    clear keep hsy2 hps2
    have q1 : w2.cell? ⟨w.heap.size + 1, 1, none⟩ = some (.slice none 0 0) := hr2.cell 1 _ rfl
    have f0 := hr2.frozen 0
    have f1 := hr2.frozen 1
    have HE := Lib.hid (((HA2.out _).trans (hb2.mono (HA2.out _).size)))
    go_wp2
    exact bodyPost_ret (v := .tuple #[.agg #[.slice (some ⟨W0.heap.size + 1 + 1, 0, none⟩) s.size s.size, .slice (some ⟨M, 0, none⟩) s.size s.size], .int .i64 0]) (by simp [results, Try.results49, go_sem, q0, q1]) rfl
      ⟨_, M, rfl, Hsy2.out _ _, Hps2.out _ _, (HE.out.setCell (p := ⟨w.heap.size + 1, 0, none⟩) (by simp) _).setCell (p := ⟨w.heap.size + 1, 1, none⟩) (by simp) _⟩
end
end Go.Proofs.Ytcboalnpbmnfcaa
