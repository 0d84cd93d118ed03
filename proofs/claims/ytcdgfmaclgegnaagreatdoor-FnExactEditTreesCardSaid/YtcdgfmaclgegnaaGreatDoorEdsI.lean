/- EditTrees of the program. -/
import Derived.Test.YtcdgfmaclgegnaaGreatDoorEdsS
namespace Go.Proofs.YtcdgfmaclgegnaaGreatDoor
open Go.RowKit
set_option linter.unusedVariables false

theorem broken_clo (x : Ed) (w : World) (hu : x.2.2.2.size ≤ 1048576) : Calls Tryz.prog 34 #[.agg #[.int .i64 x.1, .int .i64 x.2.1, .int .i64 x.2.2.1, .string x.2.2.2]] w (TupPost (.bool (!edOk x)) w) := by
  have H := Lib.hid (fun w => impl_ValidTreeEdit x.1 x.2.1 x.2.2.1 x.2.2.2 w hu)
  have e : edOk x = edB x.1 x.2.1 x.2.2.1 x.2.2.2 := rfl
  rw [e]
  have hB := Lib.hid ((Below.refl w.heap.size w).alloc (Nat.le_refl _) (.cells #[.int .i64 x.1, .int .i64 x.2.1, .int .i64 x.2.2.1, .string x.2.2.2] 23))
  clear e
  generalize edB x.1 x.2.1 x.2.2.1 x.2.2.2 = r at *
  go_enter Tryz.func34, Tryz.ntmps34
  go_wp2_with fail
  refine (H.out _).mono ?_
  rintro e w2 ⟨rfl, hb⟩
  go_wp2
  go_ret
  exact ⟨rfl, hB.out.trans (hb.mono hB.out.size)⟩

/-- Where the first step stands whose test is none, or -1. -/
def badEd (xs : List Ed) : Int := match xs.findIdx? (fun x => !edOk x) with | some i => (i : Int) | none => -1
theorem badEd_at {xs : List Ed} {k : Nat} {x : Ed} (h : xs[k]? = some x) (ha : allEd (xs.take k) = true) (hx : edOk x = false) : badEd xs = (k : Int) := by
  have hk := (List.getElem?_eq_some_iff.1 h).1
  have : xs.findIdx? (fun x => !edOk x) = some k := by
    rw [List.findIdx?_eq_some_iff_getElem]
    refine ⟨hk, ?_, fun j hj => ?_⟩
    · have := (List.getElem?_eq_some_iff.1 h).2
      rw [this, hx]; rfl
    · simp only [allEd, List.all_eq_true] at ha
      have := ha (xs[j]'(by omega)) (List.mem_of_getElem? (i := j) (by rw [List.getElem?_take, if_pos hj]; exact List.getElem?_eq_getElem (by omega)))
      rw [this]; simp
  unfold badEd
  rw [this]
theorem badEd_none {xs : List Ed} (ha : allEd xs = true) : badEd xs = -1 := by
  have : xs.findIdx? (fun x => !edOk x) = none := by
    rw [List.findIdx?_eq_none_iff]
    intro x hx
    simp only [allEd, List.all_eq_true] at ha
    rw [ha x hx]; rfl
  unfold badEd
  rw [this]
theorem entersE {P : Program} {f : FuncId} {fn : Func} {c : Code} (hf : P.funcs[f]? = some fn) (hname : (fn.name == "runtime.NumGoroutine") = false) (hb : fn.body = some c) (args : Array Value) (w : World) :
    (callFunc f args).run P w = .ok (.enter f args) w := by
  have h1 : fn.name ≠ "runtime.NumGoroutine" := by simpa using hname
  simp [callFunc, hf, h1, hb]
set_option maxHeartbeats 1600000 in
set_option maxRecDepth 100000 in
theorem idx_eds {base : Nat} {v : Value} {xs : List Ed} {bs : List Nat} (w : World) (hn : Bd1 xs) (hu : ∀ x ∈ xs, x.2.2.2.size ≤ 1048576) (ha : TeE base w v xs bs) :
    Calls Tryz.prog 56 #[v, .func (.func 34) #[] #[]] w (SeenPost (.int .i64 (badEd xs)) w) := by
  obtain ⟨A, ca, rfl⟩ := RowE.slice ha
  unfold Bd1 at hn
  obtain ⟨n, hn'⟩ : ∃ n, n = xs.length := ⟨_, rfl⟩
  have Hn := Lib.hid hn'
  rw [← hn'] at ha hn ⊢
  clear hn'
  have hcf : ∀ args w, (callFunc 34 args).run Tryz.prog w = .ok (.enter 34 args) w := fun args w => entersE (fn := Tryz.f34) (by kernel_rfl) (by kernel_rfl) rfl args w
  go_enter Tryz.func56, Tryz.ntmps56
  go_wp2
  go_loopw [8] (fun i wr => ∃ k : Nat, k ≤ n ∧ i = .int .i64 k ∧ Hid (allEd (xs.take k) = true) ∧ Below w.heap.size w wr) (fun i _ => n - (intOf i).toNat)
  case atStart => exact ⟨0, Nat.zero_le _, rfl, rfl, Below.refl _ _⟩
  case round =>
    obtain ⟨k, hk, rfl, hA, hB⟩ := hrel
    have hs := hB.size
    by_cases hlt : k < n
    · have hkx : k < xs.length := by rw [← Hn.out]; exact hlt
      obtain ⟨x, hx⟩ : ∃ x, xs[k]? = some x := ⟨_, List.getElem?_eq_getElem hkx⟩
      obtain ⟨g, rfl, hg, _⟩ := RowE.head ha hkx
      obtain ⟨hc1, hc2, hc3, hc4, _⟩ := (te_at ha hg hB hx).all4
      have ht := fun w => broken_clo x w (hu x (List.mem_of_getElem? hx))
      cases hb : edOk x with
      | true =>
        rw [hb] at ht
        have Ht := Lib.hid ht
        have hnx := Lib.hid (allEd_take hx hA.out hb)
        clear hkx hx hA ht hb
        obtain ⟨x0, x1, x2, x3⟩ := x
        dsimp only at hc1 hc2 hc3 hc4 Ht
        go_wp2_with fail
        refine (Ht.out _).mono ?_
        rintro e w2 ⟨rfl, hb2⟩
        go_wp2
        go_roundw
        case rel => exact ⟨k + 1, by omega, by go_num, hnx, hB.trans (hb2.mono hs)⟩
        case measure => simp [intOf]; omega
      | false =>
        rw [hb] at ht
        have Ht := Lib.hid ht
        have hno := Lib.hid (badEd_at hx hA.out hb)
        clear hkx hx hA ht hb
        obtain ⟨x0, x1, x2, x3⟩ := x
        dsimp only at hc1 hc2 hc3 hc4 Ht
        go_wp2_with fail
        refine (Ht.out _).mono ?_
        rintro e w2 ⟨rfl, hb2⟩
        go_wp2
        go_ret
        exact ⟨by rw [hno.out]; rfl, hB.trans (hb2.mono hs)⟩
    · have e : k = n := by omega
      subst e
      have hno := Lib.hid (show badEd xs = -1 by
        have h1 := hA.out
        rw [Hn.out, List.take_length] at h1
        exact badEd_none h1)
      clear hA
      go_wp2
      go_ret
      exact ⟨by rw [hno.out]; rfl, hB⟩
theorem badEd_all (xs : List Ed) : decide ((0 : Int) ≤ badEd xs) = !allEd xs := by
  unfold badEd
  cases h : xs.findIdx? (fun x => !edOk x) with
  | none =>
    rw [List.findIdx?_eq_none_iff] at h
    have : allEd xs = true := by
      simp only [allEd, List.all_eq_true]
      intro x hx
      have := h x hx
      simpa using this
    rw [this]; rfl
  | some i =>
    rw [List.findIdx?_eq_some_iff_getElem] at h
    obtain ⟨hi, h1, _⟩ := h
    rw [allEd_no (List.getElem?_eq_getElem hi) (by simpa using h1)]
    simp
theorem cont_eds {base : Nat} {v : Value} {xs : List Ed} {bs : List Nat} (w : World) (hn : Bd1 xs) (hu : ∀ x ∈ xs, x.2.2.2.size ≤ 1048576) (ha : TeE base w v xs bs) :
    Calls Tryz.prog 36 #[v, .func (.func 34) #[] #[]] w (SeenPost (.bool (!allEd xs)) w) := by
  have H := Lib.hid (idx_eds w hn hu ha)
  rw [← badEd_all]
  generalize badEd xs = r at *
  clear hn ha hu
  go_enter Tryz.func36, Tryz.ntmps36
  go_wp2_with fail
  refine H.out.mono ?_
  rintro e w2 ⟨rfl, hb2⟩
  go_wp2
  go_ret
  exact ⟨rfl, hb2⟩
set_option maxHeartbeats 6400000 in
set_option maxRecDepth 100000 in
theorem impl_EditTrees {base : Nat} {v : Value} {xs : List Ed} {bs : List Nat} (s : ByteArray) (w : World) (hs : s.size ≤ 1048576) (hn : xs.length ≤ 1048576) (hu : ∀ x ∈ xs, x.2.2.2.size ≤ 1048576) (hg : w.cell? ⟨0, 0, none⟩ = some (.iface 152 (.agg #[.pointer (some ⟨7, 59, none⟩)]))) (ha : TeE base w v xs bs) :
    Calls Tryz.prog 16 #[.string s, v] w (TupPost (edsV s xs) w) := by
  have hC := fun (W : World) (hb : Below w.heap.size w W) => cont_eds W hn hu ((te_ok _).later ha hb)
  obtain ⟨A, ca, rfl⟩ := RowE.slice ha
  obtain ⟨R, hR⟩ : ∃ R, R = edsV s xs := ⟨_, rfl⟩
  rw [← hR]
  have HW := Lib.hid (fun w => impl_wB s w hs)
  have HR := Lib.hid hR
  have HC := Lib.hid hC
  have Hg := Lib.hid (And.intro hg (World.block_lt_of_cell? _ _ hg))
  have Hu := Lib.hid hu
  obtain ⟨n, hn'⟩ : ∃ n, n = xs.length := ⟨_, rfl⟩
  have Hn := Lib.hid hn'
  rw [← hn'] at ha hn HC ⊢
  have hni : (n : Int) ≤ 1048576 := by omega
  have HA := Lib.hid ha
  clear hn' hu hR ha hC hg
  cases hw : wB s with
  | false =>
    rw [hw] at HW
    have hR1 : R = .tuple #[.string ⟨#[]⟩, .int .i64 0, .int .i64 1] := by rw [HR.out, edsV, if_neg (by rw [hw]; simp)]
    subst hR1
    clear hw
    go_enter Tryz.func16, Tryz.ntmps16
    go_wp2_with fail
    refine (HW.out _).mono ?_
    rintro e w1 ⟨rfl, hb⟩
    go_wp2
    go_ret3
    exact ⟨rfl, hb⟩
  | true =>
    rw [hw] at HW
    cases hal : allEd xs with
    | false =>
      rw [hal] at HC
      have hR1 : R = .tuple #[.string ⟨#[]⟩, .int .i64 0, .int .i64 1] := by rw [HR.out, edsV, if_neg (by rw [hal]; simp)]
      subst hR1
      clear hw hal
      go_enter Tryz.func16, Tryz.ntmps16
      go_wp2_with fail
      refine (HW.out _).mono ?_
      rintro e w1 ⟨rfl, hb⟩
      have HB1 := Lib.hid hb
      clear hb
      go_wp2_with fail
      refine (HC.out _ HB1.out).mono ?_
      rintro e w2 ⟨rfl, hb⟩
      have HB2 := Lib.hid (HB1.out.trans (hb.mono HB1.out.size))
      clear hb
      go_wp2
      go_ret3
      exact ⟨rfl, HB2.out⟩
    | true =>
      rw [hal] at HC
      have hW0 := Lib.hid ((wB_iff s).1 hw)
      have Hal := Lib.hid hal
      by_cases h60 : n ≤ 60
      case neg =>
        have hR1 : R = .tuple #[.string ⟨#[]⟩, .int .i64 0, .int .i64 2] := by rw [HR.out, edsV, if_pos (by rw [hw, hal]; decide), if_neg (by rw [← Hn.out]; exact h60)]
        subst hR1
        have h6 : 60 < n := by omega
        have h6i : decide ((60 : Int) < (n : Int)) = true := decide_eq_true (by omega)
        clear hw hal h60
        go_enter Tryz.func16, Tryz.ntmps16
        go_wp2_with fail
        refine (HW.out _).mono ?_
        rintro e w1 ⟨rfl, hb⟩
        have HB1 := Lib.hid hb
        clear hb
        go_wp2_with fail
        refine (HC.out _ HB1.out).mono ?_
        rintro e w2 ⟨rfl, hb⟩
        have HB2 := Lib.hid (HB1.out.trans (hb.mono HB1.out.size))
        clear hb
        go_wp2
        go_ret3
        exact ⟨rfl, HB2.out⟩
      have HR1 := Lib.hid (show R = .tuple #[.string (runE s xs).1, .int .i64 ((runE s xs).2 : Int), .int .i64 0] by rw [HR.out, edsV, if_pos (by rw [hw, hal]; decide), if_pos (by rw [← Hn.out]; exact h60)])
      have h6 : ¬ (60 < n) := by omega
      have h6i : decide ((60 : Int) < (n : Int)) = false := decide_eq_false (by omega)
      clear hw hal
      go_enter Tryz.func16, Tryz.ntmps16
      go_wp2_with fail
      refine (HW.out _).mono ?_
      rintro e w1 ⟨rfl, hb⟩
      have HB1 := Lib.hid hb
      clear hb
      go_wp2_with fail
      refine (HC.out _ HB1.out).mono ?_
      rintro e w2 ⟨rfl, hb⟩
      have hBB := HB1.out.trans (hb.mono HB1.out.size)
      clear hb
      go_wp2
      go_loopw [0, 8, 28] (fun sv d i wr => ∃ (j : Nat) (t : ByteArray) (m : Nat), j ≤ n ∧ i = .int .i64 j ∧ sv = .string t ∧ d = .int .i64 (m : Int) ∧ m ≤ j ∧ Hid ((t, m) = runE s (xs.take j) ∧ IsW t) ∧ Below w.heap.size w wr) (fun _ _ i _ => n - (intOf i).toNat)
      case atStart => exact ⟨0, s, 0, Nat.zero_le _, rfl, rfl, rfl, Nat.le_refl _, ⟨rfl, hW0.out⟩, hBB⟩
      case round =>
        obtain ⟨j, t, m, hj, rfl, rfl, rfl, hm, hT, hB2⟩ := hrel
        have hsz2 := hB2.size
        by_cases hlt2 : j < n
        · have hjx : j < xs.length := by rw [← Hn.out]; exact hlt2
          obtain ⟨x, hx⟩ : ∃ x, xs[j]? = some x := ⟨_, List.getElem?_eq_getElem hjx⟩
          obtain ⟨g, rfl, hgl, _⟩ := RowE.head HA.out hjx
          obtain ⟨hc1, hc2, hc3, hc4, _⟩ := (te_at HA.out hgl hB2 hx).all4
          have hst := nxt_step t x hT.out.2 (allEd_at hx Hal.out)
          have hgo : Hid (goE (t, m) x = runE s (xs.take (j + 1))) := by
            show _ = _
            rw [runE_succ hx, ← hT.out.1]
          obtain ⟨r, hr⟩ : ∃ r, r = (nxt t x).1 := ⟨_, rfl⟩
          obtain ⟨c, hc⟩ : ∃ c, c = (nxt t x).2 := ⟨_, rfl⟩
          rw [← hr, ← hc] at hst
          have hg2 : Hid (goE (t, m) x = if c = 0 then (r, m + 1) else (t, m)) := by
            show _ = _
            unfold goE
            rw [hr, hc]
          have hB3 := hB2.alloc hsz2 (.cells #[.int .i64 x.1, .int .i64 x.2.1, .int .i64 x.2.2.1, .string x.2.2.2] 23)
          have HB3 := Lib.hid hB3
          have HS := Lib.hid hst.2.1
          unfold madV at HS
          have Hrw := Lib.hid hst.2.2
          clear hjx hx hst hr hc hB3
          obtain ⟨x0, x1, x2, x3⟩ := x
          dsimp only at hc1 hc2 hc3 hc4 HB3 HS
          by_cases hc0 : c = 0
          · subst hc0
            have hnx : Hid ((r, m + 1) = runE s (xs.take (j + 1)) ∧ IsW r) := ⟨by rw [← hgo.out, hg2.out]; rfl, Hrw.out rfl⟩
            clear hgo hg2 hT
            go_wp2_with fail
            refine (HS.out _ ((HB3.out.cell (p := ⟨0, 0, none⟩) Hg.out.2).trans Hg.out.1)).mono ?_
            rintro e w3 ⟨rfl, hb3⟩
            have HB4 := Lib.hid (HB3.out.trans (hb3.mono HB3.out.size))
            clear hb3
            go_wp2
            go_roundw
            case rel => exact ⟨j + 1, r, m + 1, by omega, by go_num, rfl, by go_num, by omega, hnx, HB4.out⟩
            case measure => simp [intOf]; omega
          · have hnx : Hid ((t, m) = runE s (xs.take (j + 1)) ∧ IsW t) := ⟨by rw [← hgo.out, hg2.out, if_neg hc0], hT.out.2⟩
            have e5 : (c == 0) = false := by simpa using hc0
            have e6 : decide (c = 0) = false := decide_eq_false hc0
            clear hgo hg2 hT
            go_wp2_with fail
            refine (HS.out _ ((HB3.out.cell (p := ⟨0, 0, none⟩) Hg.out.2).trans Hg.out.1)).mono ?_
            rintro e w3 ⟨rfl, hb3⟩
            have HB4 := Lib.hid (HB3.out.trans (hb3.mono HB3.out.size))
            clear hb3
            go_wp2
            go_roundw
            case rel => exact ⟨j + 1, t, m, by omega, by go_num, rfl, rfl, by omega, hnx, HB4.out⟩
            case measure => simp [intOf]; omega
        · have e : j = n := by omega
          subst e
          have hfin : Hid (runE s xs = (t, m)) := by
            have h1 := hT.out.1
            rw [Hn.out, List.take_length] at h1
            exact h1.symm
          have hR1 : R = .tuple #[.string t, .int .i64 (m : Int), .int .i64 0] := by rw [HR1.out, hfin.out]
          subst hR1
          clear hT hfin
          go_wp2
          go_ret3
          exact ⟨rfl, hB2⟩
end Go.Proofs.YtcdgfmaclgegnaaGreatDoor
