/- EditTrees of the model. -/
import Derived.Test.YtcdgfmaclgegnaaGreatDoorEds1
import Derived.OwnWalk
namespace Go.Proofs.YtcdgfmaclgegnaaGreatDoor
open Go.RowKit
set_option linter.unusedVariables false

/-- What EditTrees answers. -/
noncomputable def edsV (s : ByteArray) (xs : List Ed) : Value :=
  if (wB s && allEd xs) = true then (if xs.length ≤ 60 then .tuple #[.string (runE s xs).1, .int .i64 ((runE s xs).2 : Int), .int .i64 0] else .tuple #[.string ⟨#[]⟩, .int .i64 0, .int .i64 2])
  else .tuple #[.string ⟨#[]⟩, .int .i64 0, .int .i64 1]
theorem te_at {base g n c : Nat} {w wr : World} {xs : List Ed} {bs : List Nat} (ha : TeE base w (.slice (some ⟨g, 0, none⟩) n c) xs bs) (hg : g < w.heap.size) (hB : Below w.heap.size w wr) {k : Nat} {x : Ed} (hx : xs[k]? = some x) : EdAt wr g (k * 4) x.1 x.2.1 x.2.2.1 x.2.2.2 where
  c0 := (hB.cell (p := ⟨g, k * 4, none⟩) hg).trans (TeE.cell' ha hx).1
  c1 := (hB.cell (p := ⟨g, k * 4 + 1, none⟩) hg).trans (TeE.cell' ha hx).2.1
  c2 := (hB.cell (p := ⟨g, k * 4 + 2, none⟩) hg).trans (TeE.cell' ha hx).2.2.1
  c3 := (hB.cell (p := ⟨g, k * 4 + 3, none⟩) hg).trans (TeE.cell' ha hx).2.2.2
  lt := Nat.lt_of_lt_of_le hg hB.size

set_option maxHeartbeats 6400000 in
set_option maxRecDepth 100000 in
theorem spec_EditTrees {base : Nat} {v : Value} {xs : List Ed} {bs : List Nat} (s : ByteArray) (w : World) (hs : s.size ≤ 1048576) (hn : xs.length ≤ 1048576) (hu : ∀ x ∈ xs, x.2.2.2.size ≤ 1048576) (ha : TeE base w v xs bs) :
    Calls Tryz.prog 14 #[.string s, v] w (TupPost (edsV s xs) w) := by
  obtain ⟨A, ca, rfl⟩ := RowE.slice ha
  obtain ⟨R, hR⟩ : ∃ R, R = edsV s xs := ⟨_, rfl⟩
  rw [← hR]
  have HW := Lib.hid (fun w => spec_wB s w hs)
  have HR := Lib.hid hR
  have Hu := Lib.hid hu
  obtain ⟨n, hn'⟩ : ∃ n, n = xs.length := ⟨_, rfl⟩
  have Hn := Lib.hid hn'
  rw [← hn'] at ha hn ⊢
  have hni : (n : Int) ≤ 1048576 := by omega
  have HA := Lib.hid ha
  clear hn' hu hR ha
  go_enter Tryz.func14, Tryz.ntmps14
  go_wp2_with fail
  refine (HW.out _).mono ?_
  rintro e w' ⟨rfl, rfl⟩
  go_wp2
  go_loopw [7, 8] (fun ok i wr => ∃ (b : Bool) (k : Nat), k ≤ n ∧ ok = .bool b ∧ i = .int .i64 k ∧ Hid ((b = true → wB s = true ∧ allEd (xs.take k) = true) ∧ (b = false → (wB s && allEd xs) = false)) ∧ Below w.heap.size w wr) (fun _ i _ => n - (intOf i).toNat)
  case atStart => exact ⟨wB s, 0, Nat.zero_le _, rfl, rfl, ⟨fun h => ⟨h, rfl⟩, fun h => by rw [h]; rfl⟩, Below.refl _ _⟩
  case round =>
    obtain ⟨b, k, hk, rfl, rfl, hI, hB⟩ := hrel
    have hsz := hB.size
    cases b with
    | false =>
      have hR1 : R = .tuple #[.string ⟨#[]⟩, .int .i64 0, .int .i64 1] := by rw [HR.out, edsV, if_neg (by rw [hI.out.2 rfl]; decide)]
      subst hR1
      clear hI
      by_cases hlt : k < n
      · go_wp2
        go_ret3
        exact ⟨rfl, hB⟩
      · go_wp2
        go_ret3
        exact ⟨rfl, hB⟩
    | true =>
      by_cases hlt : k < n
      · have hkx : k < xs.length := by rw [← Hn.out]; exact hlt
        obtain ⟨x, hx⟩ : ∃ x, xs[k]? = some x := ⟨_, List.getElem?_eq_getElem hkx⟩
        obtain ⟨g, rfl, hg, _⟩ := RowE.head HA.out hkx
        have hE := te_at HA.out hg hB hx
        have hux := Hu.out x (List.mem_of_getElem? hx)
        have hcall := spec_edit_at x.1 x.2.1 x.2.2.1 x.2.2.2 wr hux hE
        have hnx : Hid ((edB x.1 x.2.1 x.2.2.1 x.2.2.2 = true → wB s = true ∧ allEd (xs.take (k + 1)) = true) ∧ (edB x.1 x.2.1 x.2.2.1 x.2.2.2 = false → (wB s && allEd xs) = false)) :=
          ⟨fun h => ⟨(hI.out.1 rfl).1, allEd_take hx (hI.out.1 rfl).2 h⟩, fun h => by rw [allEd_no hx h, Bool.and_false]⟩
        have HC := Lib.hid hcall
        generalize edB x.1 x.2.1 x.2.2.1 x.2.2.2 = b2 at *
        clear hkx hx hE hux hcall hI
        go_wp2_with fail
        refine HC.out.mono ?_
        rintro e w2 ⟨rfl, hb2⟩
        go_wp2
        go_roundw
        case rel => exact ⟨b2, k + 1, by omega, rfl, by go_num, hnx, hB.trans (hb2.mono hsz)⟩
        case measure => simp [intOf]; omega
      · have e : k = n := by omega
        subst e
        have hall : Hid (wB s = true ∧ allEd xs = true) := by
          have h := hI.out.1 rfl
          rw [Hn.out, List.take_length] at h
          exact h
        clear hI
        by_cases h60 : k ≤ 60
        case neg =>
          have hR1 : R = .tuple #[.string ⟨#[]⟩, .int .i64 0, .int .i64 2] := by rw [HR.out, edsV, if_pos (by rw [hall.out.1, hall.out.2]; decide), if_neg (by rw [← Hn.out]; exact h60)]
          subst hR1
          have h6 : 60 < k := by omega
          have h6i : decide ((60 : Int) < (k : Int)) = true := decide_eq_true (by omega)
          clear hall h60
          go_wp2
          go_ret3
          exact ⟨rfl, hB⟩
        have hR1 : R = .tuple #[.string (runE s xs).1, .int .i64 ((runE s xs).2 : Int), .int .i64 0] := by rw [HR.out, edsV, if_pos (by rw [hall.out.1, hall.out.2]; decide), if_pos (by rw [← Hn.out]; exact h60)]
        have HR1 := Lib.hid hR1
        have hW0 := Lib.hid ((wB_iff s).1 hall.out.1)
        have h6 : ¬ (60 < k) := by omega
        have h6i : decide ((60 : Int) < (k : Int)) = false := decide_eq_false (by omega)
        clear hR1
        go_wp2
        go_loopw [0, 9, 10] (fun sv d i wr => ∃ (j : Nat) (t : ByteArray) (m : Nat), j ≤ k ∧ i = .int .i64 j ∧ sv = .string t ∧ d = .int .i64 (m : Int) ∧ m ≤ j ∧ Hid ((t, m) = runE s (xs.take j) ∧ IsW t) ∧ Below w.heap.size w wr) (fun _ _ i _ => k - (intOf i).toNat)
        case atStart => exact ⟨0, s, 0, Nat.zero_le _, rfl, rfl, rfl, Nat.le_refl _, ⟨rfl, hW0.out⟩, hB⟩
        case round =>
          obtain ⟨j, t, m, hj, rfl, rfl, rfl, hm, hT, hB2⟩ := hrel
          have hsz2 := hB2.size
          by_cases hlt2 : j < k
          · have hjx : j < xs.length := by rw [← Hn.out]; exact hlt2
            obtain ⟨x, hx⟩ : ∃ x, xs[j]? = some x := ⟨_, List.getElem?_eq_getElem hjx⟩
            obtain ⟨g, rfl, hg, _⟩ := RowE.head HA.out hjx
            have hE := te_at HA.out hg hB2 hx
            have hst := nxt_step t x hT.out.2 (allEd_at hx hall.out.2)
            have hgo : Hid (goE (t, m) x = runE s (xs.take (j + 1))) := by
              show _ = _
              rw [runE_succ hx, ← hT.out.1]
            obtain ⟨r, hr⟩ : ∃ r, r = (nxt t x).1 := ⟨_, rfl⟩
            obtain ⟨c, hc⟩ : ∃ c, c = (nxt t x).2 := ⟨_, rfl⟩
            rw [← hr, ← hc] at hst
            have hg2 : Hid (goE (t, m) x = if c = 0 then (r, m + 1) else (t, m)) := by
              show _ = _
              unfold goE
              rw [hr, hc]
            have HC := Lib.hid (hst.1 _ _ _ hE)
            have hrw := hst.2.2
            unfold madV at HC
            have Hrw := Lib.hid hrw
            clear hjx hx hE hst hr hc hrw
            by_cases hc0 : c = 0
            · subst hc0
              have hnx : Hid ((r, m + 1) = runE s (xs.take (j + 1)) ∧ IsW r) := ⟨by rw [← hgo.out, hg2.out]; rfl, Hrw.out rfl⟩
              clear hgo hg2 hT
              go_wp2_with fail
              refine HC.out.mono ?_
              rintro e w2 ⟨rfl, hb2⟩
              go_wp2
              go_roundw
              case rel => exact ⟨j + 1, r, m + 1, by omega, by go_num, rfl, by go_num, by omega, hnx, hB2.trans (hb2.mono hsz2)⟩
              case measure => simp [intOf]; omega
            · have hnx : Hid ((t, m) = runE s (xs.take (j + 1)) ∧ IsW t) := ⟨by rw [← hgo.out, hg2.out, if_neg hc0], hT.out.2⟩
              have e5 : (c == 0) = false := by simpa using hc0
              have e6 : decide (c = 0) = false := decide_eq_false hc0
              clear hgo hg2 hT
              go_wp2_with fail
              refine HC.out.mono ?_
              rintro e w2 ⟨rfl, hb2⟩
              go_wp2
              go_roundw
              case rel => exact ⟨j + 1, t, m, by omega, by go_num, rfl, rfl, by omega, hnx, hB2.trans (hb2.mono hsz2)⟩
              case measure => simp [intOf]; omega
          · have e : j = k := by omega
            subst e
            have hfin : Hid (runE s xs = (t, m)) := by
              have h1 := hT.out.1
              rw [Hn.out, List.take_length] at h1
              exact h1.symm
            have hR1 : R = .tuple #[.string t, .int .i64 (m : Int), .int .i64 0] := by rw [HR1.out, hfin.out]
            subst hR1
            clear hT hfin
            go_wp2
            go_ret3
            exact ⟨rfl, hB2⟩
end Go.Proofs.YtcdgfmaclgegnaaGreatDoor
