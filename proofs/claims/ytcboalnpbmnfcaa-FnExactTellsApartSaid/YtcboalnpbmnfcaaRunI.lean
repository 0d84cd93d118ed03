/- Runs of the program: read, readAll, startRun, readForRun, Takes. -/
import Derived.Test.YtcboalnpbmnfcaaReadW
import Derived.Test.YtcboalnpbmnfcaaVWalk
import Derived.Test.YtcboalnpbmnfcaaMem
namespace Go.Proofs.Ytcboalnpbmnfcaa
open Go.RowKit
set_option linter.unusedVariables false

section
variable {base : Nat} {va vc vr vi : Value} {c : Ck} {bsC : List Nat} {w0 : World} {B : Nat}
theorem impl_readF {p : Int × List Int} {k : Int} (W : World) (hck : CkE base w0 (.agg #[.int .i64 c.stack, .int .i64 c.start, va, vc, vr, vi]) c bsC) (hc : OkC c)
    (hp : StM c p) (hl : p.2.length ≤ 200) (hk : 0 ≤ k ∧ k ≤ 5) {bs : List Nat} (hr : RunB w0 B c va vc vr vi p bs W) :
    Calls Try.prog 152 #[.pointer (some ⟨B, 0, none⟩), .int .u8 k] W (ReadPostF w0 B c va vc vr vi (stepM c p k) bs W) := by
  unfold stepM
  by_cases h1 : k ≤ 1
  · rw [if_pos h1]
    exact read_call W hck hc hp hl (by omega) hr
  rw [if_neg h1]
  by_cases h3 : k ≤ 3
  · rw [if_pos h3]
    cases hg : p.2.getLast? with
    | none => exact read_empty W hck hc hp hl (by omega) (List.getLast?_eq_none_iff.1 hg) hr
    | some x =>
      have hne : p.2 ≠ [] := by intro e; rw [e] at hg; cases hg
      have e : p.2 = p.2.dropLast ++ [x] := by
        rw [List.getLast?_eq_some_getLast hne] at hg
        injection hg with hg
        rw [← hg]
        exact (List.dropLast_concat_getLast hne).symm
      exact read_mark W hck hc hp hl (by omega) e hr
  · rw [if_neg h3]
    exact read_inn W hck hc hp hl (by omega) hr
theorem impl_read {p : Int × List Int} {k : Int} (W : World) (hck : CkE base w0 (.agg #[.int .i64 c.stack, .int .i64 c.start, va, vc, vr, vi]) c bsC) (hc : OkC c)
    (hp : StM c p) (hl : p.2.length ≤ 200) (hk : 0 ≤ k ∧ k ≤ 5) (hr : RunAt w0 B c va vc vr vi p W) :
    Calls Try.prog 152 #[.pointer (some ⟨B, 0, none⟩), .int .u8 k] W (ReadPost w0 B c va vc vr vi (stepM c p k)) := by
  obtain ⟨vs, bs, hb, hE, hB, hBB⟩ := hr
  refine (impl_readF W hck hc hp hl hk ⟨vs, hb, hE, hB, hBB⟩).mono ?_
  rintro e w' ⟨rfl, bs', ⟨vs', hb', hE', hB', hBB'⟩, _, _⟩
  exact ⟨rfl, vs', bs', hb', hE', hB', hBB'⟩

/-- The cell of a symbol. -/
theorem sym_cell {b g n cc : Nat} {w : World} {sy : List Int} (h : w.ownsRow b 162 1 (.slice (some ⟨g, 0, none⟩) n cc) n (symsV sy)) {j : Nat} {x : Int} (hx : sy[j]? = some x) : j < n ∧ w.cell? ⟨g, j, none⟩ = some (.int .u8 x) := by
  have hl := h.1
  simp only [symsV, List.length_map, Nat.mul_one] at hl
  have hj := (List.getElem?_eq_some_iff.1 hx).1
  refine ⟨by omega, ?_⟩
  rw [h.cellAt j (by omega)]
  simp [symsV, hx]

set_option maxHeartbeats 1600000 in
set_option maxRecDepth 100000 in
theorem impl_readAll {b g n cc : Nat} {sy : List Int} {p : Int × List Int} (W : World) (hck : CkE base w0 (.agg #[.int .i64 c.stack, .int .i64 c.start, va, vc, vr, vi]) c bsC) (hc : OkC c)
    (hp : StM c p) (hl : p.2.length ≤ 100) (hn : n ≤ 60) (hsy : w0.ownsRow b 162 1 (.slice (some ⟨g, 0, none⟩) n cc) n (symsV sy)) (hok : ∀ x ∈ sy, 0 ≤ x ∧ x ≤ 5) (hr : RunAt w0 B c va vc vr vi p W) :
    Calls Try.prog 116 #[.pointer (some ⟨B, 0, none⟩), .slice (some ⟨g, 0, none⟩) n cc] W (ReadPost w0 B c va vc vr vi (goM c p sy)) := by
  have hsl : sy.length = n := by have := hsy.1; simpa [symsV] using this
  have Hck := Lib.hid hck
  have Hc := Lib.hid hc
  have Hp := Lib.hid hp
  have Hsy := Lib.hid hsy
  have Hok := Lib.hid hok
  have Hsl := Lib.hid hsl
  have Hr := Lib.hid hr
  clear hck hc hp hsy hok hsl hr
  go_enter Try.func116, Try.ntmps116
  go_wp2
  go_loopw [8] (fun i wr => ∃ j : Nat, j ≤ n ∧ i = .int .i64 j ∧ RunAt w0 B c va vc vr vi (goM c p (sy.take j)) wr) (fun i _ => n - (intOf i).toNat)
  case atStart => exact ⟨0, Nat.zero_le _, rfl, Hr.out⟩
  case round =>
    obtain ⟨j, hj, rfl, hR⟩ := hrel
    by_cases hlt : j < n
    · obtain ⟨x, hx⟩ : ∃ x, sy[j]? = some x := ⟨_, List.getElem?_eq_getElem (by rw [Hsl.out]; exact hlt)⟩
      have hB : Below w0.heap.size w0 wr := by obtain ⟨_, _, _, _, h, _⟩ := hR; exact h
      have hgl := (Hsy.out.lt g rfl).2
      have hcell := (hB.cell (p := ⟨g, j, none⟩) hgl).trans (sym_cell Hsy.out hx).2
      have hxo := Hok.out x (List.mem_of_getElem? hx)
      have hst := Hp.out.go Hc.out (sy.take j) (fun k hk => Hok.out k (List.mem_of_mem_take hk))
      have hlen := go_len c (sy.take j) p
      have hlen2 : (goM c p (sy.take j)).2.length ≤ 200 := by
        have := List.length_take_le j sy
        omega
      have hq := impl_read wr Hck.out Hc.out hst hlen2 hxo hR
      rw [← goM_snoc, show sy.take j ++ [x] = sy.take (j + 1) from by rw [List.take_add_one, hx]; rfl] at hq
      have Hq := Lib.hid hq
      clear hx hB hst hlen hlen2 hq hR
      go_wp2_with fail
      refine Hq.out.mono ?_
      rintro e w1 ⟨rfl, hR1⟩
      go_wp2
      go_roundw
      case rel => exact ⟨j + 1, by omega, by go_num, hR1⟩
      case measure => simp [intOf]; omega
    · have e : j = n := by omega
      subst e
      rw [List.take_of_length_le (by rw [Hsl.out]; exact Nat.le_refl _)] at hR
      go_wp2
      go_end0
      exact ⟨rfl, hR⟩

theorem impl_startRun (w : World) : Calls Try.prog 115 #[.agg #[.int .i64 c.stack, .int .i64 c.start, va, vc, vr, vi]] w fun e w' =>
    ∃ B, e = .returned (.pointer (some ⟨B, 0, none⟩)) ∧ RunAt w B c va vc vr vi (c.start, []) w' := by
  have hb := Bx.new (w.alloc (.cells #[.int .i64 c.stack, .int .i64 c.start, va, vc, vr, vi] 33)) 192 #[.int .i64 c.stack, .int .i64 c.start, va, vc, vr, vi, .int .i64 c.start, .slice none 0 0]
  rw [World.size_alloc] at hb
  have hB := ((Below.refl w.heap.size w).alloc (Nat.le_refl _) (.cells #[.int .i64 c.stack, .int .i64 c.start, va, vc, vr, vi] 33)).alloc (by simp) (.cells #[.int .i64 c.stack, .int .i64 c.start, va, vc, vr, vi, .int .i64 c.start, .slice none 0 0] 192)
  have hN : IntsE w.heap.size ((w.alloc (.cells #[.int .i64 c.stack, .int .i64 c.start, va, vc, vr, vi] 33)).alloc (.cells #[.int .i64 c.stack, .int .i64 c.start, va, vc, vr, vi, .int .i64 c.start, .slice none 0 0] 192)) (.slice none 0 0) [] [] :=
    ⟨by simpa using World.ownsRow_nil _ _ _ _, rfl⟩
  have H := Lib.hid (show RunAt w (w.heap.size + 1) c va vc vr vi (c.start, []) _ from ⟨_, _, hb, hN, hB, by omega⟩)
  clear hb hB hN
  go_enter Try.func115, Try.ntmps115
  go_wp2
  go_ret
  exact ⟨_, rfl, H.out⟩
end
end Go.Proofs.Ytcboalnpbmnfcaa
