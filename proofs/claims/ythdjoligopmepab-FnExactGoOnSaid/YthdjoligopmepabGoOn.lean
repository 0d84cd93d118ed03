/- GoOn: the model and the program answer alike. -/
import Derived.Test.YthdjoligopmepabCloneI
import Derived.Test.YthdjoligopmepabPosts
import Derived.Test.YthdjoligopmepabTakes
namespace Go.Proofs.Ythdjoligopmepab
open Go.RowKit
set_option linter.unusedVariables false

/-- A number, a new value and a code. -/
def PostIV {α : Type} (E : Nat → EP α) (a : Int) (x : α) (code : Int) (w : World) (e : Ending) (w' : World) : Prop :=
  ∃ v bs, e = .returned (.tuple #[.int .i64 a, v, .int .i64 code]) ∧ E w.heap.size w' v x bs ∧ Below w.heap.size w w'
def PostIR {α : Type} (E : Nat → EP α) (a : Int) (x : α) (code : Int) (w : World) (e : Ending) (w' : World) : Prop :=
  ∃ v bs, e = .returned (.tuple #[.int .i64 a, v, .int .i64 code]) ∧ E 0 w' v x bs ∧ Below w.heap.size w w'
/-- Whether a run can go on from a state with a stack. -/
def rngM (c : Ck) (st : Int) (xs : List Int) : Bool := inB st c.accept.length && (decide (xs.length ≤ 60) && allB xs c.stack)

section
variable {base base' : Nat} {va vc vr vi : Value} {c : Ck} {bsC : List Nat} {u : Value} {xs : List Int} {cs : List Nat}
theorem rngM_st (hc : OkC c) {st : Int} (h : rngM c st xs = true) : StM c (st, xs) ∧ xs.length ≤ 60 := by
  rw [rngM, Bool.and_eq_true, Bool.and_eq_true, decide_eq_true_eq] at h
  obtain ⟨h1, h2, h3⟩ := h
  refine ⟨⟨inB_yes h1, fun x hx => ?_⟩, h2⟩
  rw [allB, List.all_eq_true] at h3
  exact inB_yes (h3 x hx)

set_option maxHeartbeats 1600000 in
set_option maxRecDepth 100000 in
theorem impl_GoOn_no (st : Int) (s : ByteArray) (w : World) (hs : s.size ≤ 1048576) (hbd : BdC c) (hck : CkE base w (.agg #[.int .i64 c.stack, .int .i64 c.start, va, vc, vr, vi]) c bsC) (hE : IntsE base' w u xs cs) (h : ¬ GivenM c s) :
    Calls Try.prog 13 #[.agg #[.int .i64 c.stack, .int .i64 c.start, va, vc, vr, vi], .int .i64 st, u, .string s] w (PostIV IntsE 0 [] 1 w) := by
  have hB0 := (Below.refl w.heap.size w).alloc (Nat.le_refl _) (.cells #[.int .i64 c.stack, .int .i64 c.start, va, vc, vr, vi] 34)
  have H := Lib.hid (impl_for_no s _ hs hbd ((ck_ok _).later hck hB0) h)
  have HB0 := Lib.hid hB0
  obtain ⟨A, ca, rfl⟩ := RowE.slice hE
  clear hck hbd h hB0 hE
  go_enter Try.func13, Try.ntmps13
  go_wp2_with fail
  refine H.out.mono ?_
  rintro e w1 ⟨rfl, hb1⟩
  have hA := HB0.out.trans (hb1.mono HB0.out.size)
  go_wp2
  go_ret3
  exact ⟨_, [], rfl, ⟨by simpa using World.ownsRow_nil _ _ _ _, rfl⟩, hA.alloc hA.size _⟩

set_option maxHeartbeats 6400000 in
set_option maxRecDepth 100000 in
theorem impl_GoOn_rng (st : Int) (s : ByteArray) (w : World) (hbd : BdC c) (hck : CkE base w (.agg #[.int .i64 c.stack, .int .i64 c.start, va, vc, vr, vi]) c bsC) (hE : IntsE base' w u xs cs) (hn : xs.length ≤ 1048576) (h : GivenM c s) (hr : rngM c st xs = false) :
    Calls Try.prog 13 #[.agg #[.int .i64 c.stack, .int .i64 c.start, va, vc, vr, vi], .int .i64 st, u, .string s] w (PostIV IntsE 0 [] 2 w) := by
  have hc := okC_of h.2
  have h40 := hc.n2
  have hB0 := (Below.refl w.heap.size w).alloc (Nat.le_refl _) (.cells #[.int .i64 c.stack, .int .i64 c.start, va, vc, vr, vi] 34)
  have hbx := Box6.new w (.int .i64 c.stack) (.int .i64 c.start) va vc vr vi 34
  have hfor := impl_for_yes s _ hbd ((ck_ok _).later hck hB0) h
  have hall := fun (W : World) (hW : Below w.heap.size w W) => impl_all c.stack W (show Bd1 xs from hn) ((ints_ok _).later hE hW)
  obtain ⟨_, _, _, _, b1, b2, b3, b4, hv, g1, g2, g3, g4, _, _⟩ := id hck
  simp only [Value.agg.injEq, Array.mk.injEq, List.cons.injEq, and_true, true_and] at hv
  obtain ⟨rfl, rfl, rfl, rfl⟩ := hv
  obtain ⟨A, ka, rfl⟩ := RowE.slice g1
  obtain ⟨B, kb, rfl⟩ := ManyE.slice g2
  obtain ⟨R, kr, rfl⟩ := ManyE.slice g3
  obtain ⟨I, ki, rfl⟩ := ManyE.slice g4
  obtain ⟨S, ks, rfl⟩ := RowE.slice hE
  obtain ⟨n, hna⟩ : ∃ n, n = c.accept.length := ⟨_, rfl⟩
  obtain ⟨L, hL⟩ : ∃ L, L = xs.length := ⟨_, rfl⟩
  rw [rngM, ← hna, ← hL] at hr
  rw [← hna] at hfor hB0 hbx ⊢
  rw [← hL] at hall hn ⊢
  have hin := fun W => impl_below (x := st) (n := (n : Int)) W
  have Hfor := Lib.hid hfor
  have HB0 := Lib.hid hB0
  have hcell0 := hbx.c0
  generalize c.call.length = nb at *
  generalize c.ret.length = nr at *
  generalize c.inner.length = ni at *
  generalize c.stack = t0 at *
  generalize c.start = t1 at *
  clear hfor hB0 hck hbd h hc g1 g2 g3 g4 hE hcell0 hna hL h40
  obtain ⟨e0, e1, e2, e3, e4, e5, el⟩ := id hbx
  cases k1 : inB st (n : Int) with
  | false =>
    rw [k1] at hin
    have Hin := Lib.hid hin
    clear hin hall k1 hr
    go_enter Try.func13, Try.ntmps13
    go_wp2_with fail
    refine Hfor.out.mono ?_
    rintro e w1 ⟨g, M, rfl, hsy, hps, hb1⟩
    have hA := HB0.out.trans (hb1.mono HB0.out.size)
    have hn1 := (Below.refl w1.heap.size w1).alloc (Nat.le_refl _) (.cells #[.slice (some ⟨g, 0, none⟩) s.size s.size, .slice (some ⟨M, 0, none⟩) s.size s.size] 69)
    have hA2 := hA.alloc hA.size (.cells #[.slice (some ⟨g, 0, none⟩) s.size s.size, .slice (some ⟨M, 0, none⟩) s.size s.size] 69)
    have hbx1 := (hbx.later hb1).later hn1
    clear e0 e1 e2 e3 e4 e5 el hsy hps hn1
    obtain ⟨e0, e1, e2, e3, e4, e5, el⟩ := id hbx1
    go_wp2_with fail
    refine (impl_count _ _ _ _ _ _ _ _ _ _ _ _ _ _ _).mono ?_
    rintro e w2 ⟨rfl, hb2⟩
    have hA3 := hA2.trans (hb2.mono hA2.size)
    go_wp2_with fail
    refine (Hin.out _).mono ?_
    rintro e w3 ⟨rfl, rfl⟩
    go_wp2
    go_ret3
    exact ⟨_, [], rfl, ⟨by simpa using World.ownsRow_nil _ _ _ _, rfl⟩, hA3⟩
  | true =>
    rw [k1] at hin hr
    have Hin := Lib.hid hin
    clear hin k1
    by_cases k2 : L ≤ 60
    · have k3 : allB xs t0 = false := by simpa [k2] using hr
      rw [k3] at hall
      have Hall := Lib.hid hall
      clear hall k3 hr
      go_enter Try.func13, Try.ntmps13
      go_wp2_with fail
      refine Hfor.out.mono ?_
      rintro e w1 ⟨g, M, rfl, hsy, hps, hb1⟩
      have hA := HB0.out.trans (hb1.mono HB0.out.size)
      have hn1 := (Below.refl w1.heap.size w1).alloc (Nat.le_refl _) (.cells #[.slice (some ⟨g, 0, none⟩) s.size s.size, .slice (some ⟨M, 0, none⟩) s.size s.size] 69)
      have hA2 := hA.alloc hA.size (.cells #[.slice (some ⟨g, 0, none⟩) s.size s.size, .slice (some ⟨M, 0, none⟩) s.size s.size] 69)
      have hbx1 := (hbx.later hb1).later hn1
      clear e0 e1 e2 e3 e4 e5 el hsy hps hn1
      obtain ⟨e0, e1, e2, e3, e4, e5, el⟩ := id hbx1
      go_wp2_with fail
      refine (impl_count _ _ _ _ _ _ _ _ _ _ _ _ _ _ _).mono ?_
      rintro e w2 ⟨rfl, hb2⟩
      have hA3 := hA2.trans (hb2.mono hA2.size)
      clear e0 e1 e2 e3 e4 e5 el
      have e0 := (hbx1.later hb2).c0
      go_wp2_with fail
      refine (Hin.out _).mono ?_
      rintro e w3 ⟨rfl, rfl⟩
      go_wp2_with fail
      refine (Hall.out _ hA3).mono ?_
      rintro e w3 ⟨rfl, rfl⟩
      go_wp2
      go_ret3
      exact ⟨_, [], rfl, ⟨by simpa using World.ownsRow_nil _ _ _ _, rfl⟩, hA3⟩
    · have k3 : 60 < L := by omega
      clear hall hr k2
      go_enter Try.func13, Try.ntmps13
      go_wp2_with fail
      refine Hfor.out.mono ?_
      rintro e w1 ⟨g, M, rfl, hsy, hps, hb1⟩
      have hA := HB0.out.trans (hb1.mono HB0.out.size)
      have hn1 := (Below.refl w1.heap.size w1).alloc (Nat.le_refl _) (.cells #[.slice (some ⟨g, 0, none⟩) s.size s.size, .slice (some ⟨M, 0, none⟩) s.size s.size] 69)
      have hA2 := hA.alloc hA.size (.cells #[.slice (some ⟨g, 0, none⟩) s.size s.size, .slice (some ⟨M, 0, none⟩) s.size s.size] 69)
      have hbx1 := (hbx.later hb1).later hn1
      clear e0 e1 e2 e3 e4 e5 el hsy hps hn1
      obtain ⟨e0, e1, e2, e3, e4, e5, el⟩ := id hbx1
      go_wp2_with fail
      refine (impl_count _ _ _ _ _ _ _ _ _ _ _ _ _ _ _).mono ?_
      rintro e w2 ⟨rfl, hb2⟩
      have hA3 := hA2.trans (hb2.mono hA2.size)
      go_wp2_with fail
      refine (Hin.out _).mono ?_
      rintro e w3 ⟨rfl, rfl⟩
      go_wp2
      go_ret3
      exact ⟨_, [], rfl, ⟨by simpa using World.ownsRow_nil _ _ _ _, rfl⟩, hA3⟩
end
end Go.Proofs.Ythdjoligopmepab
