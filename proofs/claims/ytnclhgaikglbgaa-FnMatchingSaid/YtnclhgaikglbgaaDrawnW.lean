/- A word that is drawn from bytes: l01Drawn, A2Word: whatever the bytes, it is one, and not too long. -/
import Derived.Test.YtnclhgaikglbgaaDrawn
import Derived.Deep.DeepCutAuto
namespace Go.Proofs.Ytnclhgaikglbgaa
open Go.RowKit
set_option linter.unusedVariables false

theorem retB_40 : retB 40 = false := by decide
theorem callB_40 : callB 40 = true := by decide
theorem retB_91 : retB 91 = false := by decide
theorem callB_91 : callB 91 = true := by decide
theorem retB_41 : retB 41 = true := by decide
theorem callB_41 : callB 41 = false := by decide
theorem retB_93 : retB 93 = true := by decide
theorem callB_93 : callB 93 = false := by decide
theorem retB_97 : retB 97 = false := by decide
theorem callB_97 : callB 97 = false := by decide
theorem retB_98 : retB 98 = false := by decide
theorem callB_98 : callB 98 = false := by decide

set_option maxHeartbeats 64000000 in
set_option maxRecDepth 100000 in
theorem draw_word (p : Nat) (A : Option Addr) (n c k m : Nat) (w : World) (hp : p < w.heap.size) (hc : CodeAt p w A n) (hs : SrcAt w p A n c k) (hk : k ≤ 50000) (hm : 1 ≤ m) (hm2 : m ≤ 60) :
    Calls Try.prog 29 #[.pointer (some ⟨p, 0, none⟩), .int .i64 (m : Int)] w fun e w' => ∃ t : ByteArray, e = .returned (.string t) ∧ t.size ≤ m ∧ AllSym t.data.toList ∧ Below p w w' := by
  obtain ⟨i0, hi, hz0, hz1, hz2⟩ := info_parts info_u8d
  have e0 : (({ data := #[40, 91, 41, 93, 97, 98] } : ByteArray)[0]'(by decide)).toNat = 40 := rfl
  have e1 : (({ data := #[40, 91, 41, 93, 97, 98] } : ByteArray)[1]'(by decide)).toNat = 91 := rfl
  have e2 : (({ data := #[40, 91, 41, 93, 97, 98] } : ByteArray)[2]'(by decide)).toNat = 41 := rfl
  have e3 : (({ data := #[40, 91, 41, 93, 97, 98] } : ByteArray)[3]'(by decide)).toNat = 93 := rfl
  have e4 : (({ data := #[40, 91, 41, 93, 97, 98] } : ByteArray)[4]'(by decide)).toNat = 97 := rfl
  have e5 : (({ data := #[40, 91, 41, 93, 97, 98] } : ByteArray)[5]'(by decide)).toNat = 98 := rfl
  have start : DRel w p A n c 0 [] (some ⟨w.heap.size, 0, none⟩) 0 (w.alloc (.cells #[] 5)) k := by
    refine ⟨rfl, fun _ h => (by cases h), ?_, hs.alloc hp _, hc.alloc (by omega) _, (Below.refl _ _).alloc (by omega) _, by simp⟩
    have h := World.ownsRow_lit (base := w.heap.size) (e := 5) (size := 1) w #[] 0 (by simp) (by unfold maxLen; omega) rfl
    simpa [rowB] using h
  have Start := Lib.hid start
  clear start hc hs
  go_enter Try.func29, Try.ntmps29
  go_wp2_with fail
  refine (draw_one p A n c k 3 _ Start.out.code Start.out.src (by omega) (by omega) (by omega)).mono ?_
  rintro e w1 ⟨tb, rfl, hS1, hG1⟩
  have R1 := Start.out.drawn hp hS1 hG1
  cases tb with
  | true =>
    go_wp2_with fail
    refine (draw_pick p A n c (k + 1) ((m : Int) + 1) _ R1.code R1.src (by omega) (by omega) (by omega)).mono ?_
    rintro e w2 ⟨v, hv0, hv1, rfl, hS2, hG2⟩
    have R2 := R1.drawn hp hS2 hG2
    obtain ⟨r0, rfl⟩ := Int.eq_ofNat_of_zero_le hv0
    have hr0 : r0 ≤ m := by omega
    clear Start hS1 hG1 R1 hS2 hG2 hv0 hv1
    go_wp2
    go_loopw [5, 6, 8] (fun y d i wr => ∃ (j r dd kk g c' : Nat) (l : List UInt8), j + r ≤ m ∧ i = .int .i64 (r : Int) ∧ d = .int .i64 (dd : Int) ∧ dd ≤ j ∧ y = .slice (some ⟨g, 0, none⟩) j c' ∧ kk ≤ k + 2 + 2 * j ∧ DRel w p A n c j l (some ⟨g, 0, none⟩) c' wr kk) (fun _ _ i _ => (intOf i).toNat)
    case atStart => exact ⟨0, r0, 0, k + 2, _, _, [], by omega, rfl, rfl, Nat.le_refl _, rfl, by omega, R2⟩
    case round =>
      clear R2
      obtain ⟨j, r, dd, kk, g, c', l, hjr, rfl, rfl, hdd, rfl, hkk, R⟩ := hrel
      have hsz := R.size
      cases r with
      | zero =>
        have hjm : j ≤ m := by omega
        clear e0 e1 e2 e3 e4 e5 hjr
        rw [show ((0 : Nat) : Int) = 0 from rfl]
        go_wp2_with fail
        go_loopw [5, 6] (fun y d wr => ∃ (j dd kk g c' : Nat) (l : List UInt8), j ≤ m ∧ d = .int .i64 (dd : Int) ∧ y = .slice (some ⟨g, 0, none⟩) j c' ∧ kk ≤ k + 2 + 2 * j ∧ dd ≤ 60 ∧ DRel w p A n c j l (some ⟨g, 0, none⟩) c' wr kk) (fun _ d _ => (intOf d).toNat)
        case atStart => exact ⟨j, dd, kk, g, c', l, hjm, rfl, rfl, hkk, by omega, R⟩
        case round =>
          clear R hjm hkk hdd hsz
          obtain ⟨j, dd, kk, g, c', l, hjm, rfl, rfl, hkk, hdd, R⟩ := hrel
          have hsz := R.size
          have hcv := conv_rowB R.row
          have Fin := Lib.hid (And.intro R.len (And.intro R.sym R.below))
          go_wp2
          go_ret
          exact ⟨_, rfl, by show l.toArray.size ≤ m; simp; rw [Fin.out.1]; exact hjm, by simpa using Fin.out.2.1, Fin.out.2.2⟩
      | succ r =>
        cases dd with
        | zero =>
          go_wp2_with fail
          refine (draw_among p A n c kk wr (by omega) R.code R.src (by omega)).mono ?_
          rintro e w3 ⟨v, hv0, hv5, rfl, hS3, hG3⟩
          have R3 := (R.alloc hp _).drawn hp hS3 hG3
          have hsz3 := R3.size
          clear hS3 hG3 R
          obtain rfl | rfl | rfl | rfl | rfl | rfl : v = 0 ∨ v = 1 ∨ v = 2 ∨ v = 3 ∨ v = 4 ∨ v = 5 := by omega
          · go_wp2_with (first
              | (go_at_call 51; refine (spec_return _ _).mono ?_; rintro e w' ⟨rfl, rfl⟩; first | rw [retB_40] | rw [retB_40])
              | (go_at_call 52; refine (spec_call _ _).mono ?_; rintro e w' ⟨rfl, rfl⟩; first | rw [callB_40] | rw [callB_40])
              | (at_builtin; refine wpList_append_own _ rfl _ _ 22 rfl w.heap.size 5 i0 (.int .u8 0) 1 1 Try.underlying22 hi hz0 hz1 hz2 rfl (by decide) _ _ _ rfl (R3.row.alloc _) ⟨w3.heap.size, 0, none⟩ 1 1 [.int .u8 40] rfl rfl (cell_one_new _ _ _) ?c2 ?c3 ?c4 ?c5 ?_))
            case c2 => simp [Value.oneCell']
            case c3 => unfold maxLen; omega
            case c4 => omega
            case c5 => simp; omega
            intro v' w4 hown hg2 _
            obtain ⟨g1, c1, rfl, R4⟩ := R3.snoc (b := 40) hp (by decide) hown hg2
            clear hown hg2 R3
            go_wp2
            go_roundw
            case rel => exact ⟨j + 1, r, 1, kk + 1, g1, c1, _, by omega, by go_num, by first | rfl | go_num, by omega, rfl, by omega, R4⟩
            case measure => simp [intOf]
          · go_wp2_with (first
              | (go_at_call 51; refine (spec_return _ _).mono ?_; rintro e w' ⟨rfl, rfl⟩; first | rw [retB_91] | rw [retB_91])
              | (go_at_call 52; refine (spec_call _ _).mono ?_; rintro e w' ⟨rfl, rfl⟩; first | rw [callB_91] | rw [callB_91])
              | (at_builtin; refine wpList_append_own _ rfl _ _ 22 rfl w.heap.size 5 i0 (.int .u8 0) 1 1 Try.underlying22 hi hz0 hz1 hz2 rfl (by decide) _ _ _ rfl (R3.row.alloc _) ⟨w3.heap.size, 0, none⟩ 1 1 [.int .u8 91] rfl rfl (cell_one_new _ _ _) ?c2 ?c3 ?c4 ?c5 ?_))
            case c2 => simp [Value.oneCell']
            case c3 => unfold maxLen; omega
            case c4 => omega
            case c5 => simp; omega
            intro v' w4 hown hg2 _
            obtain ⟨g1, c1, rfl, R4⟩ := R3.snoc (b := 91) hp (by decide) hown hg2
            clear hown hg2 R3
            go_wp2
            go_roundw
            case rel => exact ⟨j + 1, r, 1, kk + 1, g1, c1, _, by omega, by go_num, by first | rfl | go_num, by omega, rfl, by omega, R4⟩
            case measure => simp [intOf]
          · go_wp2_with (first
              | (go_at_call 51; refine (spec_return _ _).mono ?_; rintro e w' ⟨rfl, rfl⟩; first | rw [retB_41] | rw [retB_41])
              | (go_at_call 52; refine (spec_call _ _).mono ?_; rintro e w' ⟨rfl, rfl⟩; first | rw [callB_41] | rw [callB_41])
              | (at_builtin; refine wpList_append_own _ rfl _ _ 22 rfl w.heap.size 5 i0 (.int .u8 0) 1 1 Try.underlying22 hi hz0 hz1 hz2 rfl (by decide) _ _ _ rfl (R3.row.alloc _) ⟨w3.heap.size, 0, none⟩ 1 1 [.int .u8 41] rfl rfl (cell_one_new _ _ _) ?c2 ?c3 ?c4 ?c5 ?_))
            case c2 => simp [Value.oneCell']
            case c3 => unfold maxLen; omega
            case c4 => omega
            case c5 => simp; omega
            intro v' w4 hown hg2 _
            obtain ⟨g1, c1, rfl, R4⟩ := R3.snoc (b := 41) hp (by decide) hown hg2
            clear hown hg2 R3
            go_wp2
            go_roundw
            case rel => exact ⟨j + 1, r, 0, kk + 1, g1, c1, _, by omega, by go_num, by first | rfl | go_num, by omega, rfl, by omega, R4⟩
            case measure => simp [intOf]
          · go_wp2_with (first
              | (go_at_call 51; refine (spec_return _ _).mono ?_; rintro e w' ⟨rfl, rfl⟩; first | rw [retB_93] | rw [retB_93])
              | (go_at_call 52; refine (spec_call _ _).mono ?_; rintro e w' ⟨rfl, rfl⟩; first | rw [callB_93] | rw [callB_93])
              | (at_builtin; refine wpList_append_own _ rfl _ _ 22 rfl w.heap.size 5 i0 (.int .u8 0) 1 1 Try.underlying22 hi hz0 hz1 hz2 rfl (by decide) _ _ _ rfl (R3.row.alloc _) ⟨w3.heap.size, 0, none⟩ 1 1 [.int .u8 93] rfl rfl (cell_one_new _ _ _) ?c2 ?c3 ?c4 ?c5 ?_))
            case c2 => simp [Value.oneCell']
            case c3 => unfold maxLen; omega
            case c4 => omega
            case c5 => simp; omega
            intro v' w4 hown hg2 _
            obtain ⟨g1, c1, rfl, R4⟩ := R3.snoc (b := 93) hp (by decide) hown hg2
            clear hown hg2 R3
            go_wp2
            go_roundw
            case rel => exact ⟨j + 1, r, 0, kk + 1, g1, c1, _, by omega, by go_num, by first | rfl | go_num, by omega, rfl, by omega, R4⟩
            case measure => simp [intOf]
          · go_wp2_with (first
              | (go_at_call 51; refine (spec_return _ _).mono ?_; rintro e w' ⟨rfl, rfl⟩; first | rw [retB_97] | rw [retB_97])
              | (go_at_call 52; refine (spec_call _ _).mono ?_; rintro e w' ⟨rfl, rfl⟩; first | rw [callB_97] | rw [callB_97])
              | (at_builtin; refine wpList_append_own _ rfl _ _ 22 rfl w.heap.size 5 i0 (.int .u8 0) 1 1 Try.underlying22 hi hz0 hz1 hz2 rfl (by decide) _ _ _ rfl (R3.row.alloc _) ⟨w3.heap.size, 0, none⟩ 1 1 [.int .u8 97] rfl rfl (cell_one_new _ _ _) ?c2 ?c3 ?c4 ?c5 ?_))
            case c2 => simp [Value.oneCell']
            case c3 => unfold maxLen; omega
            case c4 => omega
            case c5 => simp; omega
            intro v' w4 hown hg2 _
            obtain ⟨g1, c1, rfl, R4⟩ := R3.snoc (b := 97) hp (by decide) hown hg2
            clear hown hg2 R3
            go_wp2
            go_roundw
            case rel => exact ⟨j + 1, r, 0, kk + 1, g1, c1, _, by omega, by go_num, by first | rfl | go_num, by omega, rfl, by omega, R4⟩
            case measure => simp [intOf]
          · go_wp2_with (first
              | (go_at_call 51; refine (spec_return _ _).mono ?_; rintro e w' ⟨rfl, rfl⟩; first | rw [retB_98] | rw [retB_98])
              | (go_at_call 52; refine (spec_call _ _).mono ?_; rintro e w' ⟨rfl, rfl⟩; first | rw [callB_98] | rw [callB_98])
              | (at_builtin; refine wpList_append_own _ rfl _ _ 22 rfl w.heap.size 5 i0 (.int .u8 0) 1 1 Try.underlying22 hi hz0 hz1 hz2 rfl (by decide) _ _ _ rfl (R3.row.alloc _) ⟨w3.heap.size, 0, none⟩ 1 1 [.int .u8 98] rfl rfl (cell_one_new _ _ _) ?c2 ?c3 ?c4 ?c5 ?_))
            case c2 => simp [Value.oneCell']
            case c3 => unfold maxLen; omega
            case c4 => omega
            case c5 => simp; omega
            intro v' w4 hown hg2 _
            obtain ⟨g1, c1, rfl, R4⟩ := R3.snoc (b := 98) hp (by decide) hown hg2
            clear hown hg2 R3
            go_wp2
            go_roundw
            case rel => exact ⟨j + 1, r, 0, kk + 1, g1, c1, _, by omega, by go_num, by first | rfl | go_num, by omega, rfl, by omega, R4⟩
            case measure => simp [intOf]
        | succ dd =>
          go_wp2_with fail
          refine (draw_among p A n c kk wr (by omega) R.code R.src (by omega)).mono ?_
          rintro e w3 ⟨v, hv0, hv5, rfl, hS3, hG3⟩
          have R3 := (R.alloc hp _).drawn hp hS3 hG3
          have hsz3 := R3.size
          clear hS3 hG3 R
          obtain rfl | rfl | rfl | rfl | rfl | rfl : v = 0 ∨ v = 1 ∨ v = 2 ∨ v = 3 ∨ v = 4 ∨ v = 5 := by omega
          · go_wp2_with (first
              | (go_at_call 51; refine (spec_return _ _).mono ?_; rintro e w' ⟨rfl, rfl⟩; first | rw [retB_40] | rw [retB_40])
              | (go_at_call 52; refine (spec_call _ _).mono ?_; rintro e w' ⟨rfl, rfl⟩; first | rw [callB_40] | rw [callB_40])
              | (at_builtin; refine wpList_append_own _ rfl _ _ 22 rfl w.heap.size 5 i0 (.int .u8 0) 1 1 Try.underlying22 hi hz0 hz1 hz2 rfl (by decide) _ _ _ rfl (R3.row.alloc _) ⟨w3.heap.size, 0, none⟩ 1 1 [.int .u8 40] rfl rfl (cell_one_new _ _ _) ?c2 ?c3 ?c4 ?c5 ?_))
            case c2 => simp [Value.oneCell']
            case c3 => unfold maxLen; omega
            case c4 => omega
            case c5 => simp; omega
            intro v' w4 hown hg2 _
            obtain ⟨g1, c1, rfl, R4⟩ := R3.snoc (b := 40) hp (by decide) hown hg2
            clear hown hg2 R3
            go_wp2
            go_roundw
            case rel => exact ⟨j + 1, r, dd + 1 + 1, kk + 1, g1, c1, _, by omega, by go_num, by first | rfl | go_num, by omega, rfl, by omega, R4⟩
            case measure => simp [intOf]
          · go_wp2_with (first
              | (go_at_call 51; refine (spec_return _ _).mono ?_; rintro e w' ⟨rfl, rfl⟩; first | rw [retB_91] | rw [retB_91])
              | (go_at_call 52; refine (spec_call _ _).mono ?_; rintro e w' ⟨rfl, rfl⟩; first | rw [callB_91] | rw [callB_91])
              | (at_builtin; refine wpList_append_own _ rfl _ _ 22 rfl w.heap.size 5 i0 (.int .u8 0) 1 1 Try.underlying22 hi hz0 hz1 hz2 rfl (by decide) _ _ _ rfl (R3.row.alloc _) ⟨w3.heap.size, 0, none⟩ 1 1 [.int .u8 91] rfl rfl (cell_one_new _ _ _) ?c2 ?c3 ?c4 ?c5 ?_))
            case c2 => simp [Value.oneCell']
            case c3 => unfold maxLen; omega
            case c4 => omega
            case c5 => simp; omega
            intro v' w4 hown hg2 _
            obtain ⟨g1, c1, rfl, R4⟩ := R3.snoc (b := 91) hp (by decide) hown hg2
            clear hown hg2 R3
            go_wp2
            go_roundw
            case rel => exact ⟨j + 1, r, dd + 1 + 1, kk + 1, g1, c1, _, by omega, by go_num, by first | rfl | go_num, by omega, rfl, by omega, R4⟩
            case measure => simp [intOf]
          · go_wp2_with (first
              | (go_at_call 51; refine (spec_return _ _).mono ?_; rintro e w' ⟨rfl, rfl⟩; first | rw [retB_41] | rw [retB_41])
              | (go_at_call 52; refine (spec_call _ _).mono ?_; rintro e w' ⟨rfl, rfl⟩; first | rw [callB_41] | rw [callB_41])
              | (at_builtin; refine wpList_append_own _ rfl _ _ 22 rfl w.heap.size 5 i0 (.int .u8 0) 1 1 Try.underlying22 hi hz0 hz1 hz2 rfl (by decide) _ _ _ rfl (R3.row.alloc _) ⟨w3.heap.size, 0, none⟩ 1 1 [.int .u8 41] rfl rfl (cell_one_new _ _ _) ?c2 ?c3 ?c4 ?c5 ?_))
            case c2 => simp [Value.oneCell']
            case c3 => unfold maxLen; omega
            case c4 => omega
            case c5 => simp; omega
            intro v' w4 hown hg2 _
            obtain ⟨g1, c1, rfl, R4⟩ := R3.snoc (b := 41) hp (by decide) hown hg2
            clear hown hg2 R3
            go_wp2
            go_roundw
            case rel => exact ⟨j + 1, r, dd, kk + 1, g1, c1, _, by omega, by go_num, by first | rfl | go_num, by omega, rfl, by omega, R4⟩
            case measure => simp [intOf]
          · go_wp2_with (first
              | (go_at_call 51; refine (spec_return _ _).mono ?_; rintro e w' ⟨rfl, rfl⟩; first | rw [retB_93] | rw [retB_93])
              | (go_at_call 52; refine (spec_call _ _).mono ?_; rintro e w' ⟨rfl, rfl⟩; first | rw [callB_93] | rw [callB_93])
              | (at_builtin; refine wpList_append_own _ rfl _ _ 22 rfl w.heap.size 5 i0 (.int .u8 0) 1 1 Try.underlying22 hi hz0 hz1 hz2 rfl (by decide) _ _ _ rfl (R3.row.alloc _) ⟨w3.heap.size, 0, none⟩ 1 1 [.int .u8 93] rfl rfl (cell_one_new _ _ _) ?c2 ?c3 ?c4 ?c5 ?_))
            case c2 => simp [Value.oneCell']
            case c3 => unfold maxLen; omega
            case c4 => omega
            case c5 => simp; omega
            intro v' w4 hown hg2 _
            obtain ⟨g1, c1, rfl, R4⟩ := R3.snoc (b := 93) hp (by decide) hown hg2
            clear hown hg2 R3
            go_wp2
            go_roundw
            case rel => exact ⟨j + 1, r, dd, kk + 1, g1, c1, _, by omega, by go_num, by first | rfl | go_num, by omega, rfl, by omega, R4⟩
            case measure => simp [intOf]
          · go_wp2_with (first
              | (go_at_call 51; refine (spec_return _ _).mono ?_; rintro e w' ⟨rfl, rfl⟩; first | rw [retB_97] | rw [retB_97])
              | (go_at_call 52; refine (spec_call _ _).mono ?_; rintro e w' ⟨rfl, rfl⟩; first | rw [callB_97] | rw [callB_97])
              | (at_builtin; refine wpList_append_own _ rfl _ _ 22 rfl w.heap.size 5 i0 (.int .u8 0) 1 1 Try.underlying22 hi hz0 hz1 hz2 rfl (by decide) _ _ _ rfl (R3.row.alloc _) ⟨w3.heap.size, 0, none⟩ 1 1 [.int .u8 97] rfl rfl (cell_one_new _ _ _) ?c2 ?c3 ?c4 ?c5 ?_))
            case c2 => simp [Value.oneCell']
            case c3 => unfold maxLen; omega
            case c4 => omega
            case c5 => simp; omega
            intro v' w4 hown hg2 _
            obtain ⟨g1, c1, rfl, R4⟩ := R3.snoc (b := 97) hp (by decide) hown hg2
            clear hown hg2 R3
            go_wp2
            go_roundw
            case rel => exact ⟨j + 1, r, dd + 1, kk + 1, g1, c1, _, by omega, by go_num, by first | rfl | go_num, by omega, rfl, by omega, R4⟩
            case measure => simp [intOf]
          · go_wp2_with (first
              | (go_at_call 51; refine (spec_return _ _).mono ?_; rintro e w' ⟨rfl, rfl⟩; first | rw [retB_98] | rw [retB_98])
              | (go_at_call 52; refine (spec_call _ _).mono ?_; rintro e w' ⟨rfl, rfl⟩; first | rw [callB_98] | rw [callB_98])
              | (at_builtin; refine wpList_append_own _ rfl _ _ 22 rfl w.heap.size 5 i0 (.int .u8 0) 1 1 Try.underlying22 hi hz0 hz1 hz2 rfl (by decide) _ _ _ rfl (R3.row.alloc _) ⟨w3.heap.size, 0, none⟩ 1 1 [.int .u8 98] rfl rfl (cell_one_new _ _ _) ?c2 ?c3 ?c4 ?c5 ?_))
            case c2 => simp [Value.oneCell']
            case c3 => unfold maxLen; omega
            case c4 => omega
            case c5 => simp; omega
            intro v' w4 hown hg2 _
            obtain ⟨g1, c1, rfl, R4⟩ := R3.snoc (b := 98) hp (by decide) hown hg2
            clear hown hg2 R3
            go_wp2
            go_roundw
            case rel => exact ⟨j + 1, r, dd + 1, kk + 1, g1, c1, _, by omega, by go_num, by first | rfl | go_num, by omega, rfl, by omega, R4⟩
            case measure => simp [intOf]
  | false =>
    go_wp2_with fail
    refine (draw_pick p A n c (k + 1) ((m : Int) + 1) _ R1.code R1.src (by omega) (by omega) (by omega)).mono ?_
    rintro e w2 ⟨v, hv0, hv1, rfl, hS2, hG2⟩
    have R2 := R1.drawn hp hS2 hG2
    obtain ⟨r0, rfl⟩ := Int.eq_ofNat_of_zero_le hv0
    have hr0 : r0 ≤ m := by omega
    clear Start hS1 hG1 R1 hS2 hG2 hv0 hv1
    go_wp2
    go_loopw [5, 6, 8] (fun y d i wr => ∃ (j r dd kk g c' : Nat) (l : List UInt8), j + r ≤ m ∧ i = .int .i64 (r : Int) ∧ d = .int .i64 (dd : Int) ∧ dd ≤ j ∧ y = .slice (some ⟨g, 0, none⟩) j c' ∧ kk ≤ k + 2 + 2 * j ∧ DRel w p A n c j l (some ⟨g, 0, none⟩) c' wr kk) (fun _ _ i _ => (intOf i).toNat)
    case atStart => exact ⟨0, r0, 0, k + 2, _, _, [], by omega, rfl, rfl, Nat.le_refl _, rfl, by omega, R2⟩
    case round =>
      clear R2
      obtain ⟨j, r, dd, kk, g, c', l, hjr, rfl, rfl, hdd, rfl, hkk, R⟩ := hrel
      have hsz := R.size
      cases r with
      | zero =>
        have hjm : j ≤ m := by omega
        clear e0 e1 e2 e3 e4 e5 hjr
        rw [show ((0 : Nat) : Int) = 0 from rfl]
        go_wp2_with fail
        go_loopw [5, 6] (fun y d wr => ∃ (j dd kk g c' : Nat) (l : List UInt8), j ≤ m ∧ d = .int .i64 (dd : Int) ∧ y = .slice (some ⟨g, 0, none⟩) j c' ∧ kk ≤ k + 2 + 2 * j ∧ dd ≤ 60 ∧ DRel w p A n c j l (some ⟨g, 0, none⟩) c' wr kk) (fun _ d _ => (intOf d).toNat)
        case atStart => exact ⟨j, dd, kk, g, c', l, hjm, rfl, rfl, hkk, by omega, R⟩
        case round =>
          clear R hjm hkk hdd hsz
          obtain ⟨j, dd, kk, g, c', l, hjm, rfl, rfl, hkk, hdd, R⟩ := hrel
          have hsz := R.size
          have hcv := conv_rowB R.row
          have Fin := Lib.hid (And.intro R.len (And.intro R.sym R.below))
          cases dd with
          | zero =>
            go_wp2
            go_ret
            exact ⟨_, rfl, by show l.toArray.size ≤ m; simp; rw [Fin.out.1]; exact hjm, by simpa using Fin.out.2.1, Fin.out.2.2⟩
          | succ dd =>
            by_cases hlt : j < m
            · go_wp2_with fail
              refine (draw_one p A n c kk 8 _ R.code R.src (by omega) (by omega) (by omega)).mono ?_
              rintro e w3 ⟨bb, rfl, hS3, hG3⟩
              have R3 := R.drawn hp hS3 hG3
              clear hS3 hG3 hcv Fin
              have hcv := conv_rowB R3.row
              have Fin := Lib.hid (And.intro R3.len (And.intro R3.sym R3.below))
              cases bb with
              | true =>
                go_wp2
                go_ret
                exact ⟨_, rfl, by show l.toArray.size ≤ m; simp; rw [Fin.out.1]; exact hjm, by simpa using Fin.out.2.1, Fin.out.2.2⟩
              | false =>
                clear hcv Fin
                go_wp2_with fail
                refine (draw_pick p A n c (kk + 1) 2 _ R3.code R3.src (by omega) (by omega) (by omega)).mono ?_
                rintro e w4 ⟨v, hv0, hv1, rfl, hS4, hG4⟩
                have R4 := R3.drawn hp hS4 hG4
                have hsz4 := R4.size
                clear hS4 hG4 R3 R
                have f0 : (({ data := #[41, 93] } : ByteArray)[0]'(by decide)).toNat = 41 := rfl
                have f1 : (({ data := #[41, 93] } : ByteArray)[1]'(by decide)).toNat = 93 := rfl
                obtain rfl | rfl : v = 0 ∨ v = 1 := by omega
                · go_wp2_with (at_builtin; refine wpList_append_own _ rfl _ _ 22 rfl w.heap.size 5 i0 (.int .u8 0) 1 1 Try.underlying22 hi hz0 hz1 hz2 rfl (by decide) _ _ _ rfl (R4.row.alloc _) ⟨w4.heap.size, 0, none⟩ 1 1 [.int .u8 41] rfl rfl (cell_one_new _ _ _) ?c2 ?c3 ?c4 ?c5 ?_)
                  case c2 => simp [Value.oneCell']
                  case c3 => unfold maxLen; omega
                  case c4 => omega
                  case c5 => simp; omega
                  intro v' w5 hown hg2 _
                  obtain ⟨g1, c1, rfl, R5⟩ := R4.snoc (b := 41) hp (by decide) hown hg2
                  clear hown hg2 R4
                  go_wp2
                  go_roundw
                  case rel => exact ⟨j + 1, dd, kk + 1 + 1, g1, c1, _, by omega, by go_num, rfl, by omega, by omega, R5⟩
                  case measure => simp [intOf]
                · go_wp2_with (at_builtin; refine wpList_append_own _ rfl _ _ 22 rfl w.heap.size 5 i0 (.int .u8 0) 1 1 Try.underlying22 hi hz0 hz1 hz2 rfl (by decide) _ _ _ rfl (R4.row.alloc _) ⟨w4.heap.size, 0, none⟩ 1 1 [.int .u8 93] rfl rfl (cell_one_new _ _ _) ?c2 ?c3 ?c4 ?c5 ?_)
                  case c2 => simp [Value.oneCell']
                  case c3 => unfold maxLen; omega
                  case c4 => omega
                  case c5 => simp; omega
                  intro v' w5 hown hg2 _
                  obtain ⟨g1, c1, rfl, R5⟩ := R4.snoc (b := 93) hp (by decide) hown hg2
                  clear hown hg2 R4
                  go_wp2
                  go_roundw
                  case rel => exact ⟨j + 1, dd, kk + 1 + 1, g1, c1, _, by omega, by go_num, rfl, by omega, by omega, R5⟩
                  case measure => simp [intOf]
            · go_wp2
              go_ret
              exact ⟨_, rfl, by show l.toArray.size ≤ m; simp; rw [Fin.out.1]; exact hjm, by simpa using Fin.out.2.1, Fin.out.2.2⟩
      | succ r =>
        cases dd with
        | zero =>
          go_wp2_with fail
          refine (draw_among p A n c kk wr (by omega) R.code R.src (by omega)).mono ?_
          rintro e w3 ⟨v, hv0, hv5, rfl, hS3, hG3⟩
          have R3 := (R.alloc hp _).drawn hp hS3 hG3
          have hsz3 := R3.size
          clear hS3 hG3 R
          obtain rfl | rfl | rfl | rfl | rfl | rfl : v = 0 ∨ v = 1 ∨ v = 2 ∨ v = 3 ∨ v = 4 ∨ v = 5 := by omega
          · go_wp2_with (first
              | (go_at_call 51; refine (spec_return _ _).mono ?_; rintro e w' ⟨rfl, rfl⟩; first | rw [retB_40] | rw [retB_40])
              | (go_at_call 52; refine (spec_call _ _).mono ?_; rintro e w' ⟨rfl, rfl⟩; first | rw [callB_40] | rw [callB_40])
              | (at_builtin; refine wpList_append_own _ rfl _ _ 22 rfl w.heap.size 5 i0 (.int .u8 0) 1 1 Try.underlying22 hi hz0 hz1 hz2 rfl (by decide) _ _ _ rfl (R3.row.alloc _) ⟨w3.heap.size, 0, none⟩ 1 1 [.int .u8 40] rfl rfl (cell_one_new _ _ _) ?c2 ?c3 ?c4 ?c5 ?_))
            case c2 => simp [Value.oneCell']
            case c3 => unfold maxLen; omega
            case c4 => omega
            case c5 => simp; omega
            intro v' w4 hown hg2 _
            obtain ⟨g1, c1, rfl, R4⟩ := R3.snoc (b := 40) hp (by decide) hown hg2
            clear hown hg2 R3
            go_wp2
            go_roundw
            case rel => exact ⟨j + 1, r, 1, kk + 1, g1, c1, _, by omega, by go_num, by first | rfl | go_num, by omega, rfl, by omega, R4⟩
            case measure => simp [intOf]
          · go_wp2_with (first
              | (go_at_call 51; refine (spec_return _ _).mono ?_; rintro e w' ⟨rfl, rfl⟩; first | rw [retB_91] | rw [retB_91])
              | (go_at_call 52; refine (spec_call _ _).mono ?_; rintro e w' ⟨rfl, rfl⟩; first | rw [callB_91] | rw [callB_91])
              | (at_builtin; refine wpList_append_own _ rfl _ _ 22 rfl w.heap.size 5 i0 (.int .u8 0) 1 1 Try.underlying22 hi hz0 hz1 hz2 rfl (by decide) _ _ _ rfl (R3.row.alloc _) ⟨w3.heap.size, 0, none⟩ 1 1 [.int .u8 91] rfl rfl (cell_one_new _ _ _) ?c2 ?c3 ?c4 ?c5 ?_))
            case c2 => simp [Value.oneCell']
            case c3 => unfold maxLen; omega
            case c4 => omega
            case c5 => simp; omega
            intro v' w4 hown hg2 _
            obtain ⟨g1, c1, rfl, R4⟩ := R3.snoc (b := 91) hp (by decide) hown hg2
            clear hown hg2 R3
            go_wp2
            go_roundw
            case rel => exact ⟨j + 1, r, 1, kk + 1, g1, c1, _, by omega, by go_num, by first | rfl | go_num, by omega, rfl, by omega, R4⟩
            case measure => simp [intOf]
          · go_wp2_with (first
              | (go_at_call 51; refine (spec_return _ _).mono ?_; rintro e w' ⟨rfl, rfl⟩; first | rw [retB_41] | rw [retB_40])
              | (go_at_call 52; refine (spec_call _ _).mono ?_; rintro e w' ⟨rfl, rfl⟩; first | rw [callB_41] | rw [callB_40])
              | (at_builtin; refine wpList_append_own _ rfl _ _ 22 rfl w.heap.size 5 i0 (.int .u8 0) 1 1 Try.underlying22 hi hz0 hz1 hz2 rfl (by decide) _ _ _ rfl (R3.row.alloc _) ⟨w3.heap.size, 0, none⟩ 1 1 [.int .u8 40] rfl rfl (cell_one_new _ _ _) ?c2 ?c3 ?c4 ?c5 ?_))
            case c2 => simp [Value.oneCell']
            case c3 => unfold maxLen; omega
            case c4 => omega
            case c5 => simp; omega
            intro v' w4 hown hg2 _
            obtain ⟨g1, c1, rfl, R4⟩ := R3.snoc (b := 40) hp (by decide) hown hg2
            clear hown hg2 R3
            go_wp2
            go_roundw
            case rel => exact ⟨j + 1, r, 1, kk + 1, g1, c1, _, by omega, by go_num, by first | rfl | go_num, by omega, rfl, by omega, R4⟩
            case measure => simp [intOf]
          · go_wp2_with (first
              | (go_at_call 51; refine (spec_return _ _).mono ?_; rintro e w' ⟨rfl, rfl⟩; first | rw [retB_93] | rw [retB_40])
              | (go_at_call 52; refine (spec_call _ _).mono ?_; rintro e w' ⟨rfl, rfl⟩; first | rw [callB_93] | rw [callB_40])
              | (at_builtin; refine wpList_append_own _ rfl _ _ 22 rfl w.heap.size 5 i0 (.int .u8 0) 1 1 Try.underlying22 hi hz0 hz1 hz2 rfl (by decide) _ _ _ rfl (R3.row.alloc _) ⟨w3.heap.size, 0, none⟩ 1 1 [.int .u8 40] rfl rfl (cell_one_new _ _ _) ?c2 ?c3 ?c4 ?c5 ?_))
            case c2 => simp [Value.oneCell']
            case c3 => unfold maxLen; omega
            case c4 => omega
            case c5 => simp; omega
            intro v' w4 hown hg2 _
            obtain ⟨g1, c1, rfl, R4⟩ := R3.snoc (b := 40) hp (by decide) hown hg2
            clear hown hg2 R3
            go_wp2
            go_roundw
            case rel => exact ⟨j + 1, r, 1, kk + 1, g1, c1, _, by omega, by go_num, by first | rfl | go_num, by omega, rfl, by omega, R4⟩
            case measure => simp [intOf]
          · go_wp2_with (first
              | (go_at_call 51; refine (spec_return _ _).mono ?_; rintro e w' ⟨rfl, rfl⟩; first | rw [retB_97] | rw [retB_97])
              | (go_at_call 52; refine (spec_call _ _).mono ?_; rintro e w' ⟨rfl, rfl⟩; first | rw [callB_97] | rw [callB_97])
              | (at_builtin; refine wpList_append_own _ rfl _ _ 22 rfl w.heap.size 5 i0 (.int .u8 0) 1 1 Try.underlying22 hi hz0 hz1 hz2 rfl (by decide) _ _ _ rfl (R3.row.alloc _) ⟨w3.heap.size, 0, none⟩ 1 1 [.int .u8 97] rfl rfl (cell_one_new _ _ _) ?c2 ?c3 ?c4 ?c5 ?_))
            case c2 => simp [Value.oneCell']
            case c3 => unfold maxLen; omega
            case c4 => omega
            case c5 => simp; omega
            intro v' w4 hown hg2 _
            obtain ⟨g1, c1, rfl, R4⟩ := R3.snoc (b := 97) hp (by decide) hown hg2
            clear hown hg2 R3
            go_wp2
            go_roundw
            case rel => exact ⟨j + 1, r, 0, kk + 1, g1, c1, _, by omega, by go_num, by first | rfl | go_num, by omega, rfl, by omega, R4⟩
            case measure => simp [intOf]
          · go_wp2_with (first
              | (go_at_call 51; refine (spec_return _ _).mono ?_; rintro e w' ⟨rfl, rfl⟩; first | rw [retB_98] | rw [retB_98])
              | (go_at_call 52; refine (spec_call _ _).mono ?_; rintro e w' ⟨rfl, rfl⟩; first | rw [callB_98] | rw [callB_98])
              | (at_builtin; refine wpList_append_own _ rfl _ _ 22 rfl w.heap.size 5 i0 (.int .u8 0) 1 1 Try.underlying22 hi hz0 hz1 hz2 rfl (by decide) _ _ _ rfl (R3.row.alloc _) ⟨w3.heap.size, 0, none⟩ 1 1 [.int .u8 98] rfl rfl (cell_one_new _ _ _) ?c2 ?c3 ?c4 ?c5 ?_))
            case c2 => simp [Value.oneCell']
            case c3 => unfold maxLen; omega
            case c4 => omega
            case c5 => simp; omega
            intro v' w4 hown hg2 _
            obtain ⟨g1, c1, rfl, R4⟩ := R3.snoc (b := 98) hp (by decide) hown hg2
            clear hown hg2 R3
            go_wp2
            go_roundw
            case rel => exact ⟨j + 1, r, 0, kk + 1, g1, c1, _, by omega, by go_num, by first | rfl | go_num, by omega, rfl, by omega, R4⟩
            case measure => simp [intOf]
        | succ dd =>
          go_wp2_with fail
          refine (draw_among p A n c kk wr (by omega) R.code R.src (by omega)).mono ?_
          rintro e w3 ⟨v, hv0, hv5, rfl, hS3, hG3⟩
          have R3 := (R.alloc hp _).drawn hp hS3 hG3
          have hsz3 := R3.size
          clear hS3 hG3 R
          obtain rfl | rfl | rfl | rfl | rfl | rfl : v = 0 ∨ v = 1 ∨ v = 2 ∨ v = 3 ∨ v = 4 ∨ v = 5 := by omega
          · go_wp2_with (first
              | (go_at_call 51; refine (spec_return _ _).mono ?_; rintro e w' ⟨rfl, rfl⟩; first | rw [retB_40] | rw [retB_40])
              | (go_at_call 52; refine (spec_call _ _).mono ?_; rintro e w' ⟨rfl, rfl⟩; first | rw [callB_40] | rw [callB_40])
              | (at_builtin; refine wpList_append_own _ rfl _ _ 22 rfl w.heap.size 5 i0 (.int .u8 0) 1 1 Try.underlying22 hi hz0 hz1 hz2 rfl (by decide) _ _ _ rfl (R3.row.alloc _) ⟨w3.heap.size, 0, none⟩ 1 1 [.int .u8 40] rfl rfl (cell_one_new _ _ _) ?c2 ?c3 ?c4 ?c5 ?_))
            case c2 => simp [Value.oneCell']
            case c3 => unfold maxLen; omega
            case c4 => omega
            case c5 => simp; omega
            intro v' w4 hown hg2 _
            obtain ⟨g1, c1, rfl, R4⟩ := R3.snoc (b := 40) hp (by decide) hown hg2
            clear hown hg2 R3
            go_wp2
            go_roundw
            case rel => exact ⟨j + 1, r, dd + 1 + 1, kk + 1, g1, c1, _, by omega, by go_num, by first | rfl | go_num, by omega, rfl, by omega, R4⟩
            case measure => simp [intOf]
          · go_wp2_with (first
              | (go_at_call 51; refine (spec_return _ _).mono ?_; rintro e w' ⟨rfl, rfl⟩; first | rw [retB_91] | rw [retB_91])
              | (go_at_call 52; refine (spec_call _ _).mono ?_; rintro e w' ⟨rfl, rfl⟩; first | rw [callB_91] | rw [callB_91])
              | (at_builtin; refine wpList_append_own _ rfl _ _ 22 rfl w.heap.size 5 i0 (.int .u8 0) 1 1 Try.underlying22 hi hz0 hz1 hz2 rfl (by decide) _ _ _ rfl (R3.row.alloc _) ⟨w3.heap.size, 0, none⟩ 1 1 [.int .u8 91] rfl rfl (cell_one_new _ _ _) ?c2 ?c3 ?c4 ?c5 ?_))
            case c2 => simp [Value.oneCell']
            case c3 => unfold maxLen; omega
            case c4 => omega
            case c5 => simp; omega
            intro v' w4 hown hg2 _
            obtain ⟨g1, c1, rfl, R4⟩ := R3.snoc (b := 91) hp (by decide) hown hg2
            clear hown hg2 R3
            go_wp2
            go_roundw
            case rel => exact ⟨j + 1, r, dd + 1 + 1, kk + 1, g1, c1, _, by omega, by go_num, by first | rfl | go_num, by omega, rfl, by omega, R4⟩
            case measure => simp [intOf]
          · go_wp2_with (first
              | (go_at_call 51; refine (spec_return _ _).mono ?_; rintro e w' ⟨rfl, rfl⟩; first | rw [retB_41] | rw [retB_41])
              | (go_at_call 52; refine (spec_call _ _).mono ?_; rintro e w' ⟨rfl, rfl⟩; first | rw [callB_41] | rw [callB_41])
              | (at_builtin; refine wpList_append_own _ rfl _ _ 22 rfl w.heap.size 5 i0 (.int .u8 0) 1 1 Try.underlying22 hi hz0 hz1 hz2 rfl (by decide) _ _ _ rfl (R3.row.alloc _) ⟨w3.heap.size, 0, none⟩ 1 1 [.int .u8 41] rfl rfl (cell_one_new _ _ _) ?c2 ?c3 ?c4 ?c5 ?_))
            case c2 => simp [Value.oneCell']
            case c3 => unfold maxLen; omega
            case c4 => omega
            case c5 => simp; omega
            intro v' w4 hown hg2 _
            obtain ⟨g1, c1, rfl, R4⟩ := R3.snoc (b := 41) hp (by decide) hown hg2
            clear hown hg2 R3
            go_wp2
            go_roundw
            case rel => exact ⟨j + 1, r, dd, kk + 1, g1, c1, _, by omega, by go_num, by first | rfl | go_num, by omega, rfl, by omega, R4⟩
            case measure => simp [intOf]
          · go_wp2_with (first
              | (go_at_call 51; refine (spec_return _ _).mono ?_; rintro e w' ⟨rfl, rfl⟩; first | rw [retB_93] | rw [retB_93])
              | (go_at_call 52; refine (spec_call _ _).mono ?_; rintro e w' ⟨rfl, rfl⟩; first | rw [callB_93] | rw [callB_93])
              | (at_builtin; refine wpList_append_own _ rfl _ _ 22 rfl w.heap.size 5 i0 (.int .u8 0) 1 1 Try.underlying22 hi hz0 hz1 hz2 rfl (by decide) _ _ _ rfl (R3.row.alloc _) ⟨w3.heap.size, 0, none⟩ 1 1 [.int .u8 93] rfl rfl (cell_one_new _ _ _) ?c2 ?c3 ?c4 ?c5 ?_))
            case c2 => simp [Value.oneCell']
            case c3 => unfold maxLen; omega
            case c4 => omega
            case c5 => simp; omega
            intro v' w4 hown hg2 _
            obtain ⟨g1, c1, rfl, R4⟩ := R3.snoc (b := 93) hp (by decide) hown hg2
            clear hown hg2 R3
            go_wp2
            go_roundw
            case rel => exact ⟨j + 1, r, dd, kk + 1, g1, c1, _, by omega, by go_num, by first | rfl | go_num, by omega, rfl, by omega, R4⟩
            case measure => simp [intOf]
          · go_wp2_with (first
              | (go_at_call 51; refine (spec_return _ _).mono ?_; rintro e w' ⟨rfl, rfl⟩; first | rw [retB_97] | rw [retB_97])
              | (go_at_call 52; refine (spec_call _ _).mono ?_; rintro e w' ⟨rfl, rfl⟩; first | rw [callB_97] | rw [callB_97])
              | (at_builtin; refine wpList_append_own _ rfl _ _ 22 rfl w.heap.size 5 i0 (.int .u8 0) 1 1 Try.underlying22 hi hz0 hz1 hz2 rfl (by decide) _ _ _ rfl (R3.row.alloc _) ⟨w3.heap.size, 0, none⟩ 1 1 [.int .u8 97] rfl rfl (cell_one_new _ _ _) ?c2 ?c3 ?c4 ?c5 ?_))
            case c2 => simp [Value.oneCell']
            case c3 => unfold maxLen; omega
            case c4 => omega
            case c5 => simp; omega
            intro v' w4 hown hg2 _
            obtain ⟨g1, c1, rfl, R4⟩ := R3.snoc (b := 97) hp (by decide) hown hg2
            clear hown hg2 R3
            go_wp2
            go_roundw
            case rel => exact ⟨j + 1, r, dd + 1, kk + 1, g1, c1, _, by omega, by go_num, by first | rfl | go_num, by omega, rfl, by omega, R4⟩
            case measure => simp [intOf]
          · go_wp2_with (first
              | (go_at_call 51; refine (spec_return _ _).mono ?_; rintro e w' ⟨rfl, rfl⟩; first | rw [retB_98] | rw [retB_98])
              | (go_at_call 52; refine (spec_call _ _).mono ?_; rintro e w' ⟨rfl, rfl⟩; first | rw [callB_98] | rw [callB_98])
              | (at_builtin; refine wpList_append_own _ rfl _ _ 22 rfl w.heap.size 5 i0 (.int .u8 0) 1 1 Try.underlying22 hi hz0 hz1 hz2 rfl (by decide) _ _ _ rfl (R3.row.alloc _) ⟨w3.heap.size, 0, none⟩ 1 1 [.int .u8 98] rfl rfl (cell_one_new _ _ _) ?c2 ?c3 ?c4 ?c5 ?_))
            case c2 => simp [Value.oneCell']
            case c3 => unfold maxLen; omega
            case c4 => omega
            case c5 => simp; omega
            intro v' w4 hown hg2 _
            obtain ⟨g1, c1, rfl, R4⟩ := R3.snoc (b := 98) hp (by decide) hown hg2
            clear hown hg2 R3
            go_wp2
            go_roundw
            case rel => exact ⟨j + 1, r, dd + 1, kk + 1, g1, c1, _, by omega, by go_num, by first | rfl | go_num, by omega, rfl, by omega, R4⟩
            case measure => simp [intOf]

theorem draw_A2Word {A : Option Addr} {n c m : Nat} (w : World) (hc : CodeAt w.heap.size w A n) (hm : 1 ≤ m) (hm2 : m ≤ 60) :
    Calls Try.prog 8 #[.slice A n c, .int .i64 (m : Int)] w fun e w' => ∃ t : ByteArray, e = .returned (.string t) ∧ IsW t ∧ t.size ≤ m ∧ Below w.heap.size w w' := by
  have hq := fun w1 h1 => draw_word w.heap.size A n c 0 m w1 h1
  have Hc := Lib.hid hc
  have Hq := Lib.hid hq
  clear hc hq
  go_enter Try.func8, Try.ntmps8
  go_wp2_with fail
  refine (draw_from A n c w).mono ?_
  rintro e w1 ⟨rfl, hS, rfl⟩
  have Hw := Lib.hid (Hq.out _ (by simp) (Hc.out.alloc (Nat.le_refl _) _) hS (by omega) hm hm2)
  clear hS
  go_wp2_with fail
  refine Hw.out.mono ?_
  rintro e w2 ⟨t, rfl, h1, h2, h3⟩
  have hb := ((Below.refl w.heap.size w).alloc (Nat.le_refl _) (.cells #[.slice A n c, .int .i64 0, .int .u64 0] 73)).trans h3
  clear h3
  go_wp2
  go_ret
  exact ⟨t, rfl, ⟨by omega, h2⟩, h1, hb⟩
end Go.Proofs.Ytnclhgaikglbgaa
