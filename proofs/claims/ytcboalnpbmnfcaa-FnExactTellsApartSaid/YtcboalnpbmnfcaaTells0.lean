/- What TellsApart calls: areWords, around, takesText, of the program. -/
import Derived.Test.YtcboalnpbmnfcaaTakesI
import Derived.Test.YtcboalnpbmnfcaaValidWord0
import Derived.Test.YtcboalnpbmnfcaaPending
namespace Go.Proofs.Ytcboalnpbmnfcaa
open Go.RowKit
set_option linter.unusedVariables false

/-- Whether a word is matched. -/
def matB (l : List UInt8) : Bool := decide (cR l (prts (ksOf l)) l.length + cC l (prts (ksOf l)) l.length = 0)
theorem matB_size (s : ByteArray) : matB s.data.toList = decide (cR s.data.toList (prts (ksOf s.data.toList)) s.size + cC s.data.toList (prts (ksOf s.data.toList)) s.size = 0) := by
  have hl : s.data.toList.length = s.size := by simp
  rw [matB, hl]
theorem spec_mat (s : ByteArray) (w : World) (hw : IsW s) : Calls Try.prog 57 #[.string s] w (TupPost (.bool (matB s.data.toList)) w) := by
  rw [matB_size]; exact spec_matched s w hw
theorem impl_mat {s : ByteArray} {w2 : World} {b b' g M : Nat} (h : IsW s) (hsy : w2.ownsRow b 162 1 (.slice (some ⟨g, 0, none⟩) s.size s.size) s.size (symsV (symL s.data.toList)))
    (hps : w2.ownsRow b' 2 1 (.slice (some ⟨M, 0, none⟩) s.size s.size) s.size (numsV (prts (ksOf s.data.toList)))) :
    Calls Try.prog 61 #[.agg #[.slice (some ⟨g, 0, none⟩) s.size s.size, .slice (some ⟨M, 0, none⟩) s.size s.size]] w2 (TupPost (.bool (matB s.data.toList)) w2) := by
  have hl : s.data.toList.length = s.size := by simp
  rw [matB_size, ← pend_empty s.data.toList h.2 s.size (by rw [hl]; exact Nat.le_refl _)]
  exact impl_isMatched _ _ _ _ _ _ _ w2 h.1 (by rw [symL_len, hl]) (by rw [prts_len, ksOf_len, hl]) (hsy.lt _ rfl).2 (hps.lt _ rfl).2 (symL_ok h.2) (syms_cell hsy) (nums_cell hps)

theorem entersT {P : Program} {f : FuncId} {fn : Func} {c : Code} (hf : P.funcs[f]? = some fn) (hname : (fn.name == "runtime.NumGoroutine") = false) (hb : fn.body = some c) (args : Array Value) (w : World) :
    (callFunc f args).run P w = .ok (.enter f args) w := by
  have h1 : fn.name ≠ "runtime.NumGoroutine" := by simpa using hname
  simp [callFunc, hf, h1, hb]
/-- A word, or not, as a truth value. -/
theorem isW_b (s : ByteArray) : ∃ b : Bool, (b = true ↔ IsW s) := by
  by_cases h : IsW s
  · exact ⟨true, by simp [h]⟩
  · exact ⟨false, by simp [h]⟩
theorem impl_valid_b {s : ByteArray} {b : Bool} (w : World) (hs : s.size ≤ 1048576) (h : b = true ↔ IsW s) : Calls Try.prog 128 #[.string s] w (TupPost (.bool b) w) := by
  cases b with
  | true => exact impl_valid_yes s w (h.1 rfl)
  | false => exact impl_valid_no s w hs (fun hw => by have := h.2 hw; cases this)
theorem spec_ok_b {s : ByteArray} {b : Bool} (w : World) (hs : s.size ≤ 1048576) (h : b = true ↔ IsW s) : Calls Try.prog 56 #[.string s] w fun e w' => e = .returned (.bool b) ∧ w = w' := by
  cases b with
  | true => exact spec_ok_yes s w (h.1 rfl)
  | false => exact spec_ok_no s w hs (fun hw => by have := h.2 hw; cases this)
theorem strange_word {s : ByteArray} {b : Bool} (w : World) (hs : s.size ≤ 1048576) (h : b = true ↔ IsW s) : Calls Try.prog 127 #[.string s] w (TupPost (.bool (!b)) w) := by
  have H := Lib.hid (fun w => impl_valid_b w hs h)
  clear h hs
  go_enter Try.func127, Try.ntmps127
  go_wp2_with fail
  refine (H.out _).mono ?_
  rintro e w' ⟨rfl, hb⟩
  go_wp2
  go_ret
  exact ⟨rfl, hb⟩

/-- Where the first text stands that is no word, or -1. -/
def badW (a b : Bool) : Int := if a = false then 0 else if b = false then 1 else -1
set_option maxHeartbeats 1600000 in
set_option maxRecDepth 100000 in
theorem idx_words {g : Nat} {s t : ByteArray} {a b : Bool} (w : World) (hs : s.size ≤ 1048576) (ht : t.size ≤ 1048576) (ha : a = true ↔ IsW s) (hb : b = true ↔ IsW t) (c0 : w.cell? ⟨g, 0, none⟩ = some (.string s)) (c1 : w.cell? ⟨g, 1, none⟩ = some (.string t)) :
    Calls Try.prog 160 #[.slice (some ⟨g, 0, none⟩) 2 2, .func (.func 127) #[] #[]] w (TupPost (.int .i64 (badW a b)) w) := by
  have hcf : ∀ args w, (callFunc 127 args).run Try.prog w = .ok (.enter 127 args) w := fun args w => entersT (fn := Try.f127) (by kernel_rfl) (by kernel_rfl) rfl args w
  have HA := Lib.hid (fun w => strange_word w hs ha)
  have HB := Lib.hid (fun w => strange_word w ht hb)
  have HC := Lib.hid (And.intro c0 c1)
  have hg := World.block_lt_of_cell? _ _ c0
  clear hs ht ha hb c0 c1
  go_enter Try.func160, Try.ntmps160
  go_wp2
  go_loopw [8] (fun i wr => ∃ k : Nat, k ≤ 2 ∧ i = .int .i64 k ∧ Hid ((0 < k → a = true) ∧ (1 < k → b = true)) ∧ Below w.heap.size w wr) (fun i _ => 2 - (intOf i).toNat)
  case atStart => exact ⟨0, by omega, rfl, Lib.hid ⟨fun h => absurd h (by omega), fun h => absurd h (by omega)⟩, Below.refl _ _⟩
  case round =>
    obtain ⟨k, hk, rfl, hA, hB⟩ := hrel
    have hs := hB.size
    obtain rfl | rfl | rfl : k = 0 ∨ k = 1 ∨ k = 2 := by omega
    · have hc := (hB.cell (p := ⟨g, 0, none⟩) hg).trans HC.out.1
      cases a with
      | true =>
        go_wp2_with fail
        refine (HA.out _).mono ?_
        rintro e w2 ⟨rfl, hb2⟩
        go_wp2
        go_roundw
        case rel => exact ⟨1, by omega, by go_num, Lib.hid ⟨fun _ => by trivial, fun h => absurd h (by omega)⟩, hB.trans (hb2.mono hs)⟩
        case measure => simp [intOf]
      | false =>
        go_wp2_with fail
        refine (HA.out _).mono ?_
        rintro e w2 ⟨rfl, hb2⟩
        go_wp2
        go_ret
        exact ⟨rfl, hB.trans (hb2.mono hs)⟩
    · have hc := (hB.cell (p := ⟨g, 1, none⟩) hg).trans HC.out.2
      obtain rfl := hA.out.1 (by omega)
      cases b with
      | true =>
        go_wp2_with fail
        refine (HB.out _).mono ?_
        rintro e w2 ⟨rfl, hb2⟩
        go_wp2
        go_roundw
        case rel => exact ⟨2, by omega, by go_num, Lib.hid ⟨fun _ => by trivial, fun _ => by trivial⟩, hB.trans (hb2.mono hs)⟩
        case measure => simp [intOf]
      | false =>
        go_wp2_with fail
        refine (HB.out _).mono ?_
        rintro e w2 ⟨rfl, hb2⟩
        go_wp2
        go_ret
        exact ⟨rfl, hB.trans (hb2.mono hs)⟩
    · obtain rfl := hA.out.1 (by omega)
      obtain rfl := hA.out.2 (by omega)
      go_wp2
      go_ret
      exact ⟨rfl, hB⟩
theorem impl_areWords {g : Nat} {s t : ByteArray} {a b : Bool} (w : World) (hs : s.size ≤ 1048576) (ht : t.size ≤ 1048576) (ha : a = true ↔ IsW s) (hb : b = true ↔ IsW t) (c0 : w.cell? ⟨g, 0, none⟩ = some (.string s)) (c1 : w.cell? ⟨g, 1, none⟩ = some (.string t)) :
    Calls Try.prog 59 #[.slice (some ⟨g, 0, none⟩) 2 2] w (TupPost (.bool (a && b)) w) := by
  have hi : ∀ w, w.cell? ⟨g, 0, none⟩ = some (.string s) → w.cell? ⟨g, 1, none⟩ = some (.string t) → Calls Try.prog 126 #[.slice (some ⟨g, 0, none⟩) 2 2, .func (.func 127) #[] #[]] w (TupPost (.bool (!(a && b))) w) := by
    intro w c0 c1
    have H := Lib.hid (idx_words w hs ht ha hb c0 c1)
    have he : decide ((0 : Int) ≤ badW a b) = !(a && b) := by cases a <;> cases b <;> rfl
    rw [← he]
    generalize badW a b = r at *
    clear hs ht ha hb c0 c1 he
    go_enter Try.func126, Try.ntmps126
    go_wp2_with fail
    refine H.out.mono ?_
    rintro e w2 ⟨rfl, hb2⟩
    go_wp2
    go_ret
    exact ⟨rfl, hb2⟩
  have H := Lib.hid (hi w c0 c1)
  clear hi hs ht ha hb c0 c1
  generalize hr : (a && b) = r at *
  clear hr
  go_enter Try.func59, Try.ntmps59
  go_wp2_with fail
  refine H.out.mono ?_
  rintro e w2 ⟨rfl, hb2⟩
  go_wp2
  go_ret
  exact ⟨by simp, hb2⟩

theorem impl_around (s t u : ByteArray) (w : World) (h : s.size + u.size + t.size ≤ 100000000) : Calls Try.prog 62 #[.agg #[.string s, .string t], .string u] w (TupPost (.string (s ++ u ++ t)) w) := by
  have hx := Bx.new w 41 #[.string s, .string t]
  obtain ⟨c0, c1, cl⟩ := id hx.all2
  go_enter Try.func62, Try.ntmps62
  go_wp2
  go_ret
  exact ⟨rfl, (Below.refl _ _).alloc (Nat.le_refl _) _⟩

section
variable {base : Nat} {va vc vr vi : Value} {c : Ck} {bsC : List Nat}
set_option maxHeartbeats 3200000 in
set_option maxRecDepth 100000 in
theorem impl_takesText (s : ByteArray) (w : World) (hbd : BdC c) (hck : CkE base w (.agg #[.int .i64 c.stack, .int .i64 c.start, va, vc, vr, vi]) c bsC) (h : GivenM c s) :
    Calls Try.prog 63 #[.agg #[.int .i64 c.stack, .int .i64 c.start, va, vc, vr, vi], .string s] w (TupPost (.bool (takesM c s.data.toList)) w) := by
  have hB0 := (Below.refl w.heap.size w).alloc (Nat.le_refl _) (.cells #[.int .i64 c.stack, .int .i64 c.start, va, vc, vr, vi] 33)
  have hbx := Box6.new w (.int .i64 c.stack) (.int .i64 c.start) va vc vr vi 33
  have Hrd := Lib.hid (fun w => impl_read_yes s w h.1.1 h.1.2)
  have Htr := Lib.hid fun (W : World) (b g M : Nat) (hW : Below w.heap.size w W) hsy => impl_takesRead (b := b) (g := g) (vM := .slice (some ⟨M, 0, none⟩) s.size s.size) s W hbd ((ck_ok _).later hck hW) h hsy
  have HB0 := Lib.hid hB0
  obtain ⟨r, hr⟩ : ∃ r, r = takesM c s.data.toList := ⟨_, rfl⟩
  rw [← hr] at Htr ⊢
  obtain ⟨t0, ht0⟩ : ∃ t, t = c.stack := ⟨_, rfl⟩
  obtain ⟨t1, ht1⟩ : ∃ t, t = c.start := ⟨_, rfl⟩
  rw [← ht0, ← ht1] at HB0 hbx Htr ⊢
  clear hB0 hck hbd h hr ht0 ht1
  obtain ⟨e0, e1, e2, e3, e4, e5, el⟩ := id hbx
  go_enter Try.func63, Try.ntmps63
  go_wp2_with fail
  refine (Hrd.out _).mono ?_
  rintro e w1 ⟨M, rfl, hsy, hps, hb1⟩
  rw [World.size_alloc] at hsy hps ⊢
  have hA := HB0.out.trans (hb1.mono HB0.out.size)
  obtain ⟨g, hg⟩ : ∃ g, g = w.heap.size + 1 + 1 + 1 := ⟨_, rfl⟩
  rw [← hg] at hsy ⊢
  have hn1 := (Below.refl w1.heap.size w1).alloc (Nat.le_refl _) (.cells #[.slice (some ⟨g, 0, none⟩) s.size s.size, .slice (some ⟨M, 0, none⟩) s.size s.size] 88)
  have hA2 := hA.alloc hA.size (.cells #[.slice (some ⟨g, 0, none⟩) s.size s.size, .slice (some ⟨M, 0, none⟩) s.size s.size] 88)
  have hbx1 := (hbx.later hb1).later hn1
  have Hq := Lib.hid (Htr.out _ _ g M hA2 (row_below hsy hn1))
  have HA2 := Lib.hid hA2
  clear e0 e1 e2 e3 e4 e5 el hps hsy hn1 hA2 hA hg
  obtain ⟨e0, e1, e2, e3, e4, e5, el⟩ := id hbx1
  go_wp2_with fail
  refine Hq.out.mono ?_
  rintro e w2 ⟨rfl, hb2⟩
  have hA3 := HA2.out.trans (hb2.mono HA2.out.size)
  go_wp2
  go_ret
  exact ⟨rfl, hA3⟩
end
end Go.Proofs.Ytcboalnpbmnfcaa
