/- The walk of l01Partners. -/
import Derived.Test.YtcboalnpbmnfcaaPart
namespace Go.Proofs.Ytcboalnpbmnfcaa
open Go.RowKit

def RowPost (T : TypeId) (n : Nat) (xs : List Value) (w : World) (e : Ending) (w' : World) : Prop :=
  ∃ A c, e = .returned (.slice A n c) ∧ w'.ownsRow w.heap.size T 1 (.slice A n c) n xs ∧ Below w.heap.size w w'

theorem SRel.start (w : World) (ks : List Nat) :
    SRel w ks 0 0 (some ⟨w.heap.size, 0, none⟩) 0 (some ⟨w.heap.size + 1, 0, none⟩) 0 ((w.alloc (.cells #[] 2)).alloc (.cells #[] 3)) := by
  refine ⟨by simp [opns, pst], ?_, ?_, ((Below.refl _ _).alloc (Nat.le_refl _) _).alloc (by simp) _⟩
  · have h := World.ownsRow_lit (base := w.heap.size) (e := 2) (size := 1) w #[] 0 (Nat.le_refl _) (by unfold maxLen; omega) rfl
    simpa [numsV, prts, pst] using h.alloc (.cells #[] 3)
  · have h := World.ownsRow_lit (base := w.heap.size) (e := 3) (size := 1) (w.alloc (.cells #[] 2)) #[] 0 (by simp) (by unfold maxLen; omega) rfl
    simpa [natsV, opns, pst] using h

set_option maxHeartbeats 3200000 in
set_option maxRecDepth 100000 in
theorem spec_partners (s : ByteArray) (w : World) (hw : IsW s) :
    Calls Try.prog 154 #[.string s] w (RowPost 2 s.size (numsV (prts (ksOf s.data.toList))) w) := by
  obtain ⟨h60, hall⟩ := hw
  obtain ⟨i0, hi, hz0, hz1, hz2⟩ := info_parts info_i64
  obtain ⟨j0, hj, hy0, hy1, hy2⟩ := info_parts info_int
  obtain ⟨ks, hks⟩ : ∃ ks, ks = ksOf s.data.toList := ⟨_, rfl⟩
  have hkl : ks.length = s.size := by rw [hks, ksOf_len]; simp
  rw [← hks]
  have Hks := Lib.hid hks
  have Hkl := Lib.hid hkl
  have Hall := Lib.hid hall
  clear hks hkl hall
  go_enter Try.func154, Try.ntmps154
  go_wp2
  go_loopw [3, 4, 5] (fun o p i wr => ∃ (k m : Nat) (A : Option Addr) (c : Nat) (A' : Option Addr) (c' : Nat), k ≤ s.size ∧ i = .int .i64 k ∧ o = .slice A k c ∧ p = .slice A' m c' ∧ SRel w ks k m A c A' c' wr) (fun _ _ i _ => s.size - (intOf i).toNat)
  case atStart => exact ⟨0, 0, _, _, _, _, Nat.zero_le _, rfl, rfl, rfl, SRel.start w ks⟩
  case round =>
    obtain ⟨k, m, A, c, A', c', hk, rfl, rfl, rfl, hR⟩ := hrel
    by_cases hlt : k < s.size
    · have hb : Hid (s.data.toList[k]? = some s[k]) := by
        show _ = _
        rw [List.getElem?_eq_getElem (by simpa using hlt)]; rfl
      have hsy : 0 ≤ symNo (s[k].toNat : Int) := Hall.out _ (List.mem_of_getElem? hb.out)
      have hkk : Hid (ks[k]? = some (kindS (symNo (s[k].toNat : Int)))) := by
        show _ = _
        rw [Hks.out]
        exact ksOf_at _ _ _ hb.out
      have hmk := hR.m_le hkk.out
      have hbs := hR.below.size
      cases hc : callB (s[k].toNat : Int) with
      | true =>
        have hk0 : Hid (ks[k]? = some 0) := by
          show _ = _
          rw [hkk.out, kind_call hc]
        clear hkk hb
        go_wp2_with (first
          | (go_at_call 156; refine (spec_call _ _).mono ?_; rintro e w' ⟨rfl, rfl⟩)
          | (at_builtin; refine wpList_append_own _ rfl _ _ 48 rfl w.heap.size 2 i0 (.int .i64 0) 1 8 Try.underlying48 hi hz0 hz1 hz2 rfl (by decide) _ _ _ rfl (hR.rowP.alloc _) ⟨wr.heap.size, 0, none⟩ 1 1 [.int .i64 (-2)] rfl rfl (cell_one_new _ _ _) ?c2 ?c3 ?c4 ?c5 ?_))
        case c2 => simp [Value.oneCell']
        case c3 => unfold maxLen; omega
        case c4 => omega
        case c5 => simp; omega
        intro v1 w1 hown1 hg1 _
        have hO := fun o' => hR.keepO (o' := o') hg1
        have hs1 : w.heap.size ≤ w1.heap.size := by have := hg1.size; simp at this; omega
        go_wp2_with (at_builtin; refine wpList_append_own _ rfl _ _ 223 rfl w.heap.size 3 j0 (.int .i64 0) 1 8 Try.underlying223 hj hy0 hy1 hy2 rfl (by decide) _ _ _ rfl (hO _) ⟨w1.heap.size, 0, none⟩ 1 1 [.int .i64 (k : Int)] rfl rfl (cell_one_new _ _ _) ?d2 ?d3 ?d4 ?d5 ?_)
        case d2 => simp [Value.oneCell']
        case d3 => unfold maxLen; omega
        case d4 => omega
        case d5 => simp; omega
        intro v2 w2 hown2 hg2 _
        obtain ⟨g1, c1, g2, c2, rfl, rfl, hR'⟩ := hR.open_ hk0.out hown1 hg1 hown2 hg2
        clear hown1 hg1 hown2 hg2 hO
        go_wp2
        go_roundw
        case rel => exact ⟨k + 1, m + 1, _, _, _, _, by omega, by go_num, rfl, rfl, hR'⟩
        case measure => simp [intOf]; omega
      | false =>
        cases hd : retB (s[k].toNat : Int) with
        | true =>
          have hk1 : Hid (ks[k]? = some 1) := by
            show _ = _
            rw [hkk.out, kind_ret hd]
          clear hkk hb
          cases m with
          | zero =>
            go_wp2_with (first
              | (go_at_call 156; refine (spec_call _ _).mono ?_; rintro e w' ⟨rfl, rfl⟩)
              | (go_at_call 155; refine (spec_return _ _).mono ?_; rintro e w' ⟨rfl, rfl⟩)
              | (at_builtin; refine wpList_append_own _ rfl _ _ 48 rfl w.heap.size 2 i0 (.int .i64 0) 1 8 Try.underlying48 hi hz0 hz1 hz2 rfl (by decide) _ _ _ rfl (hR.rowP.alloc _) ⟨wr.heap.size, 0, none⟩ 1 1 [.int .i64 (-2)] rfl rfl (cell_one_new _ _ _) ?c2 ?c3 ?c4 ?c5 ?_))
            case c2 => simp [Value.oneCell']
            case c3 => unfold maxLen; omega
            case c4 => omega
            case c5 => simp; omega
            intro v1 w1 hown1 hg1 _
            obtain ⟨g1, c1, rfl, hR'⟩ := hR.lone hk1.out hown1 hg1
            clear hown1 hg1
            go_wp2
            go_roundw
            case rel => exact ⟨k + 1, 0, _, _, _, _, by omega, by go_num, rfl, rfl, hR'⟩
            case measure => simp [intOf]; omega
          | succ m =>
            obtain ⟨g, g', a, u, rfl, rfl, ha, hlast, hsp, hcell, hca, hfa, hroom⟩ := hR.last hk1.out
            have Hlast := Lib.hid hlast
            have Hsp := Lib.hid hsp
            clear hlast hsp
            have hst := hR.stored (a := a)
            go_wp2_with (first
              | (go_at_call 156; refine (spec_call _ _).mono ?_; rintro e w' ⟨rfl, rfl⟩)
              | (go_at_call 155; refine (spec_return _ _).mono ?_; rintro e w' ⟨rfl, rfl⟩)
              | (at_builtin; refine wpList_append_own _ rfl _ _ 48 rfl w.heap.size 2 i0 (.int .i64 0) 1 8 Try.underlying48 hi hz0 hz1 hz2 rfl (by decide) _ _ _ rfl (hst.alloc _) ⟨wr.heap.size, 0, none⟩ 1 1 [.int .i64 (a : Int)] rfl rfl ?c1 ?c2 ?c3 ?c4 ?c5 ?_))
            case c1 =>
              intro j u hj
              have h := cell_one_new (wr.setCell ⟨g, a, none⟩ (.int .i64 (k : Int))) (.int .i64 (a : Int)) 2 j u hj
              rwa [show (wr.setCell ⟨g, a, none⟩ (.int .i64 (k : Int))).heap.size = wr.heap.size from by simp] at h
            case c2 => simp [Value.oneCell']
            case c3 => unfold maxLen; omega
            case c4 => omega
            case c5 => simp; omega
            intro v1 w1 hown1 hg1 _
            obtain ⟨g1, c1, rfl, hR'⟩ := hR.close hk1.out Hlast.out Hsp.out hown1 hg1
            clear hown1 hg1 hst
            go_wp2
            go_roundw
            case rel => exact ⟨k + 1, m, _, _, _, _, by omega, by go_num, rfl, rfl, hR'⟩
            case measure => simp [intOf]; omega
        | false =>
          have hk2 : Hid (ks[k]? = some 2) := by
            show _ = _
            rcases kind_in hc hd with h | h
            · rw [hkk.out, h]
            · omega
          clear hkk hb
          go_wp2_with (first
            | (go_at_call 156; refine (spec_call _ _).mono ?_; rintro e w' ⟨rfl, rfl⟩)
            | (go_at_call 155; refine (spec_return _ _).mono ?_; rintro e w' ⟨rfl, rfl⟩)
            | (at_builtin; refine wpList_append_own _ rfl _ _ 48 rfl w.heap.size 2 i0 (.int .i64 0) 1 8 Try.underlying48 hi hz0 hz1 hz2 rfl (by decide) _ _ _ rfl (hR.rowP.alloc _) ⟨wr.heap.size, 0, none⟩ 1 1 [.int .i64 (-1)] rfl rfl (cell_one_new _ _ _) ?c2 ?c3 ?c4 ?c5 ?_))
          case c2 => simp [Value.oneCell']
          case c3 => unfold maxLen; omega
          case c4 => omega
          case c5 => simp; omega
          intro v1 w1 hown1 hg1 _
          obtain ⟨g1, c1, rfl, hR'⟩ := hR.inner hk2.out hown1 hg1
          clear hown1 hg1
          go_wp2
          go_roundw
          case rel => exact ⟨k + 1, m, _, _, _, _, by omega, by go_num, rfl, rfl, hR'⟩
          case measure => simp [intOf]; omega
    · have e : k = s.size := by omega
      subst e
      have h1 := hR.rowP
      rw [List.take_of_length_le (by rw [Hkl.out]; exact Nat.le_refl _)] at h1
      go_wp2
      go_ret
      exact ⟨_, _, rfl, h1, hR.below⟩
end Go.Proofs.Ytcboalnpbmnfcaa
