/- Numbers in decimal, of any size, of the model; strconv.FormatInt of the library. -/
import Derived.Test.YtglbmmgancecnaaDoorDec
import Derived.Lib.AppendIntMem
import Derived.Lib.LaidTab
import Derived.IntWalk
namespace Go.Proofs.YtglbmmgancecnaaDoor
open Go.RowKit
set_option linter.unusedVariables false

theorem decD_pow : ∀ (k n : Nat), n < 10 ^ (k + 1) → (Lib.decDigits n).length ≤ k + 1
  | 0, n, h => by rw [decD_lt (by simpa using h)]; simp
  | k + 1, n, h => by
    by_cases h1 : n < 10
    · rw [decD_lt h1]; simp
    · have h2 := decD_pow k (n / 10) (by rw [Nat.pow_succ] at h; omega)
      rw [decD_ge h1, List.length_append]
      simp only [List.length_cons, List.length_nil]
      omega
set_option maxHeartbeats 3200000 in
set_option maxRecDepth 100000 in
theorem spec_decG_step (n : Nat) (hn : n < 10000000000000000000) (ih : ∀ q, q < n → ∀ w : World, Calls Tryd.prog 31 #[.int .i64 (q : Int)] w (TupPost (.string (decS q)) w)) (hw63 : IntKind.i64.wrap (((n / 10 : Nat) : Int)) = ((n / 10 : Nat) : Int)) (w : World) : Calls Tryd.prog 31 #[.int .i64 (n : Int)] w (TupPost (.string (decS n)) w) := by
  by_cases h : n < 10
  · exact spec_dec0 n h w
  obtain ⟨q, r, hqd, hq, hr, hqn, hq18⟩ : ∃ q r : Nat, q = n / 10 ∧ n = 10 * q + r ∧ r < 10 ∧ q < n ∧ q < 1000000000000000000 := ⟨n / 10, n % 10, rfl, by omega, by omega, by omega, by omega⟩
  have hd : decS n = decS q ++ ⟨#[dB r]⟩ := by
    rw [decS, decD_ge h, show n / 10 = q by omega, show n % 10 = r by omega, decS]
    apply ByteArray.ext
    simp [dB]
  rw [hd]
  have hw : IntKind.u8.wrap (48 + (r : Int)) = 48 + (r : Int) := by unfold IntKind.wrap IntKind.signed IntKind.bits; simp; omega
  have hwq : IntKind.i64.wrap (q : Int) = (q : Int) := by rw [hqd]; exact hw63
  have hwr : IntKind.i64.wrap (48 + (r : Int)) = 48 + (r : Int) := by unfold IntKind.wrap IntKind.signed IntKind.bits; simp; omega
  have hdiv : (n : Int) / 10 = (q : Int) := by omega
  have hmod : (n : Int) % 10 = (r : Int) := by omega
  have hdiv2 : Int.tdiv (n : Int) 10 = (q : Int) := by rw [Int.tdiv_eq_ediv_of_nonneg (by omega)]; exact hdiv
  have hmod2 : Int.tmod (n : Int) 10 = (r : Int) := by rw [Int.tmod_eq_emod_of_nonneg (by omega)]; exact hmod
  have H := Lib.hid fun W => ih q hqn W
  have hs : (decS q).size ≤ 18 := decD_pow 17 q hq18
  have hz : (⟨#[dB r]⟩ : ByteArray).size = 1 := rfl
  generalize decS q = t at *
  have hn2 : ¬ (n : Int) < 10 := by omega
  clear hd hq hn ih hw63 hqd hq18
  go_enter Tryd.func31, Tryd.ntmps31
  go_wp2_with fail
  go_upto_region 2 with fail
  refine wp_region_free (by kernel_rfl) [
      .val [] (fun _ => .int .i64 (n : Int)),
      .val [] (fun _ => .int .i64 (q : Int)),
      .val [] (fun _ => .string t),
      .val [] (fun _ => .int .i64 (n : Int)),
      .val [] (fun _ => .int .i64 (r : Int)),
      .val [] (fun _ => .int .i64 (48 + (r : Int))),
      .val [] (fun _ => .int .u8 (48 + (r : Int))),
      .own (LitF w.heap.size 5 #[.int .u8 (48 + (r : Int))] 1) (),
      .val [] (fun _ => .string ⟨#[dB r]⟩),
      .val [] (fun _ => .string (t ++ ⟨#[dB r]⟩)),
      .val [] (fun _ => .string (t ++ ⟨#[dB r]⟩))] ?hp ?hfw ?deps ?oks ?steps ?tail
  case hp => kernel_rfl
  case hfw => kernel_rfl
  case deps => kernel_rfl
  case oks =>
    intro F hF
    simp only [List.mem_cons, List.not_mem_nil, or_false] at hF
    rcases hF with rfl | rfl | rfl | rfl | rfl | rfl | rfl | rfl | rfl | rfl | rfl
    all_goals first | trivial | exact ⟨_, litf_ok _ _ _ _⟩
  case steps =>
    refine Steps.cons ?_ ?_
    · refine FreeStep.val [] _ rfl rfl fun u β W hW hn fr hfr K hK => ?_
      simp only [frameL, putL, Act.put, List.setIfInBounds_toArray, List.set_cons_zero, List.set_cons_succ, Nat.zero_add, Nat.reduceAdd] at hfr
      subst hfr
      have HK := Lib.hid hK
      clear hK hn
      go_simp
      have h9 := HK.out
      revert h9
      clear HK
      go_simp
      try exact id
    refine Steps.cons ?_ ?_
    · refine FreeStep.val [] _ rfl rfl fun u β W hW hn fr hfr K hK => ?_
      simp only [frameL, putL, Act.put, List.setIfInBounds_toArray, List.set_cons_zero, List.set_cons_succ, Nat.zero_add, Nat.reduceAdd] at hfr
      subst hfr
      have e0 : u 0 = .int .i64 (n : Int) := Have.get (k := 0) hn rfl
      simp only [e0] at hK
      have HK := Lib.hid hK
      clear hK hn
      go_simp
      have h9 := HK.out
      revert h9
      clear HK
      go_simp
      try exact id
    refine Steps.cons ?_ ?_
    · refine FreeStep.calm [] _ rfl rfl fun u β W hW hn fr hfr K hK => ?_
      simp only [frameL, putL, Act.put, List.setIfInBounds_toArray, List.set_cons_zero, List.set_cons_succ, Nat.zero_add, Nat.reduceAdd] at hfr
      subst hfr
      have e1 : u 1 = .int .i64 (q : Int) := Have.get (k := 1) hn rfl
      simp only [e1] at hK
      have HK := Lib.hid hK
      clear hK hn
      go_simp
      refine (H.out _).mono ?_
      rintro e w1 ⟨rfl, hb1⟩
      have h9 := HK.out _ hb1
      revert h9
      clear HK
      go_simp
      try exact id
    refine Steps.cons ?_ ?_
    · refine FreeStep.val [] _ rfl rfl fun u β W hW hn fr hfr K hK => ?_
      simp only [frameL, putL, Act.put, List.setIfInBounds_toArray, List.set_cons_zero, List.set_cons_succ, Nat.zero_add, Nat.reduceAdd] at hfr
      subst hfr
      have HK := Lib.hid hK
      clear hK hn
      go_simp
      have h9 := HK.out
      revert h9
      clear HK
      go_simp
      try exact id
    refine Steps.cons ?_ ?_
    · refine FreeStep.val [] _ rfl rfl fun u β W hW hn fr hfr K hK => ?_
      simp only [frameL, putL, Act.put, List.setIfInBounds_toArray, List.set_cons_zero, List.set_cons_succ, Nat.zero_add, Nat.reduceAdd] at hfr
      subst hfr
      have e3 : u 3 = .int .i64 (n : Int) := Have.get (k := 3) hn rfl
      simp only [e3] at hK
      have HK := Lib.hid hK
      clear hK hn
      go_simp
      have h9 := HK.out
      revert h9
      clear HK
      go_simp
      try exact id
    refine Steps.cons ?_ ?_
    · refine FreeStep.val [] _ rfl rfl fun u β W hW hn fr hfr K hK => ?_
      simp only [frameL, putL, Act.put, List.setIfInBounds_toArray, List.set_cons_zero, List.set_cons_succ, Nat.zero_add, Nat.reduceAdd] at hfr
      subst hfr
      have e4 : u 4 = .int .i64 (r : Int) := Have.get (k := 4) hn rfl
      simp only [e4] at hK
      have HK := Lib.hid hK
      clear hK hn
      go_simp
      have h9 := HK.out
      revert h9
      clear HK
      go_simp
      try exact id
    refine Steps.cons ?_ ?_
    · refine FreeStep.val [] _ rfl rfl fun u β W hW hn fr hfr K hK => ?_
      simp only [frameL, putL, Act.put, List.setIfInBounds_toArray, List.set_cons_zero, List.set_cons_succ, Nat.zero_add, Nat.reduceAdd] at hfr
      subst hfr
      have e5 : u 5 = .int .i64 (48 + (r : Int)) := Have.get (k := 5) hn rfl
      simp only [e5] at hK
      have HK := Lib.hid hK
      clear hK hn
      go_simp
      have h9 := HK.out
      revert h9
      clear HK
      go_simp
      try exact id
    refine Steps.cons ?_ ?_
    · refine FreeStep.own (base := w.heap.size) rfl (litf_ok _ _ _ _) fun u β W hW hn fr hfr K hK => ?_
      simp only [frameL, putL, Act.put, List.setIfInBounds_toArray, List.set_cons_zero, List.set_cons_succ, Nat.zero_add, Nat.reduceAdd] at hfr
      subst hfr
      have e6 : u 6 = .int .u8 (48 + (r : Int)) := Have.get (k := 6) hn rfl
      simp only [e6] at hK
      have hsz := hW.size
      have HK := Lib.hid hK
      clear hK hn
      go_simp
      exact HK.out _ [W.heap.size] _ ((Below.refl _ _).alloc (Nat.le_refl _) _) (LitF.new _ _ _ W hsz) (fun b hb => by rw [List.mem_singleton.1 hb]; exact Nat.le_refl _)
    refine Steps.cons ?_ ?_
    · refine FreeStep.val [] _ rfl rfl fun u β W hW hn fr hfr K hK => ?_
      simp only [frameL, putL, Act.put, List.setIfInBounds_toArray, List.set_cons_zero, List.set_cons_succ, Nat.zero_add, Nat.reduceAdd] at hfr
      subst hfr
      have f7 : LitF w.heap.size 5 #[.int .u8 (48 + (r : Int))] 1 W (u 7) () (β 7) := Have.get (k := 7) hn rfl
      obtain ⟨b, hb, hx, _, _⟩ := f7
      have hcv := conv_at W hx (by omega)
      simp only [hb] at hK
      have HK := Lib.hid hK
      clear hK hn hx
      go_simp
      have h9 := HK.out
      revert h9
      clear HK
      go_simp
      try exact id
    refine Steps.cons ?_ ?_
    · refine FreeStep.val [] _ rfl rfl fun u β W hW hn fr hfr K hK => ?_
      simp only [frameL, putL, Act.put, List.setIfInBounds_toArray, List.set_cons_zero, List.set_cons_succ, Nat.zero_add, Nat.reduceAdd] at hfr
      subst hfr
      have e2 : u 2 = .string t := Have.get (k := 2) hn rfl
      have e8 : u 8 = .string ⟨#[dB r]⟩ := Have.get (k := 8) hn rfl
      simp only [e2, e8] at hK
      have hq1 : ¬ (9223372036854775807 < t.size + 1) := by omega
      have HK := Lib.hid hK
      clear hK hn
      go_simp
      have h9 := HK.out
      revert h9
      clear HK
      go_simp
      try exact id
    refine Steps.cons ?_ ?_
    · refine FreeStep.val [] _ rfl rfl fun u β W hW hn fr hfr K hK => ?_
      simp only [frameL, putL, Act.put, List.setIfInBounds_toArray, List.set_cons_zero, List.set_cons_succ, Nat.zero_add, Nat.reduceAdd] at hfr
      subst hfr
      have e9 : u 9 = .string (t ++ ⟨#[dB r]⟩) := Have.get (k := 9) hn rfl
      simp only [e9] at hK
      have HK := Lib.hid hK
      clear hK hn
      go_simp
      have h9 := HK.out
      revert h9
      clear HK
      go_simp
      try exact id
    exact Steps.nil
  case tail =>
    intro u_ β W hW hn hdis hbnd
    have z0 : u_ 0 = .int .i64 (n : Int) := Have.get (k := 0) hn rfl
    have z1 : u_ 1 = .int .i64 (q : Int) := Have.get (k := 1) hn rfl
    have z2 : u_ 2 = .string t := Have.get (k := 2) hn rfl
    have z3 : u_ 3 = .int .i64 (n : Int) := Have.get (k := 3) hn rfl
    have z4 : u_ 4 = .int .i64 (r : Int) := Have.get (k := 4) hn rfl
    have z5 : u_ 5 = .int .i64 (48 + (r : Int)) := Have.get (k := 5) hn rfl
    have z6 : u_ 6 = .int .u8 (48 + (r : Int)) := Have.get (k := 6) hn rfl
    have z8 : u_ 8 = .string ⟨#[dB r]⟩ := Have.get (k := 8) hn rfl
    have z9 : u_ 9 = .string (t ++ ⟨#[dB r]⟩) := Have.get (k := 9) hn rfl
    have z10 : u_ 10 = .string (t ++ ⟨#[dB r]⟩) := Have.get (k := 10) hn rfl
    rw [← frameL_eq (by kernel_rfl)]
    clear hn hdis hbnd
    simp only [frameL, putL, Act.put, List.setIfInBounds_toArray, List.set_cons_zero, List.set_cons_succ, Nat.zero_add, Nat.reduceAdd, z0, z1, z2, z3, z4, z5, z6, z8, z9, z10]
    clear z0 z1 z2 z3 z4 z5 z6 z8 z9 z10
    go_wp2
    go_ret
    exact ⟨rfl, hW⟩

theorem wrap_div (n : Nat) (h : n ≤ 9223372036854775807) : IntKind.i64.wrap (((n / 10 : Nat) : Int)) = ((n / 10 : Nat) : Int) := by
  unfold IntKind.wrap IntKind.signed IntKind.bits; simp; omega
theorem spec_decG (n : Nat) (hn : n ≤ 9223372036854775807) : ∀ w : World, Calls Tryd.prog 31 #[.int .i64 (n : Int)] w (TupPost (.string (decS n)) w) := by
  induction n using Nat.strongRecOn with
  | ind n ih => intro w; exact spec_decG_step n (by omega) (fun q hq => ih q hq (by omega)) (wrap_div n hn) w
end Go.Proofs.YtglbmmgancecnaaDoor
