import Derived.Test.YtblgjedjljfmcaaGreatDoorMFnExactUndoTreeEdit0
import Derived.Test.YtblgjedjljfmcaaGreatDoorMFnExactUndoTreeEdit1
import Derived.Lib.ItoaNum
import Derived.Laws.IdiomStrings
import Derived.Deep.RegionWith
import Derived.Deep.DeepCutAuto
import Derived.Test.YtblgjedjljfmcaaGreatDoorMFnExactUndoTreeEdit19
import Derived.Test.YtblgjedjljfmcaaGreatDoorMFnExactUndoTreeEdit11
import Derived.Test.YtblgjedjljfmcaaGreatDoorMFnExactUndoTreeEdit9
/- Numbers in decimal, of the model. -/
namespace Go.Proofs.YtblgjedjljfmcaaGreatDoor
open Go.RowKit
set_option linter.unusedVariables false

/-- The byte of a digit. -/
def dB (k : Nat) : UInt8 := UInt8.ofNat (48 + k)
def decS (n : Nat) : ByteArray := ⟨(Lib.decDigits n).toArray⟩
theorem decD_lt {n : Nat} (h : n < 10) : Lib.decDigits n = [UInt8.ofNat (48 + n)] := by rw [Lib.decDigits, dif_pos h]
theorem decD_ge {n : Nat} (h : ¬ n < 10) : Lib.decDigits n = Lib.decDigits (n / 10) ++ [UInt8.ofNat (48 + n % 10)] := by conv => lhs; rw [Lib.decDigits, dif_neg h]
theorem decD_len (n : Nat) (h : n < 100) : (Lib.decDigits n).length ≤ 2 := by
  by_cases h1 : n < 10
  · rw [decD_lt h1]; simp
  · rw [decD_ge h1, decD_lt (by omega)]; simp
theorem decS_size (n : Nat) (h : n < 100) : (decS n).size ≤ 2 := decD_len n h
theorem u8_conv (w : World) (k : Nat) (x : Int) (hk : k < 10) (hx : x = 48 + (k : Int)) :
    (convert 110 9 (.slice (some ⟨w.heap.size, 0, none⟩) 1 1)).run Tryz.prog (w.alloc (.cells #[.int .u8 x] 5)) = .ok (.string ⟨#[dB k]⟩) (w.alloc (.cells #[.int .u8 x] 5)) := by
  have e : x = ((dB k).toNat : Int) := by
    rw [dB, UInt8.toNat_ofNat', hx]
    omega
  have := run_convert_bytes_back (P := Tryz.prog) (w.alloc (.cells #[.int .u8 x] 5)) 110 9 5 ⟨w.heap.size, 0, none⟩ 1 [dB k] Tryz.underlying110 Tryz.underlying5 Tryz.underlying9 fun j hj => by
    obtain rfl : j = 0 := by simpa using hj
    rw [e]
    simp [go_sem, Addr.add]
  simpa using this
theorem conv_at (W : World) {b k : Nat} (hx : Bx W b 5 #[.int .u8 (48 + (k : Int))]) (hk : k < 10) :
    (convert 110 9 (.slice (some ⟨b, 0, none⟩) 1 1)).run Tryz.prog W = .ok (.string ⟨#[dB k]⟩) W := by
  have e : 48 + (k : Int) = ((dB k).toNat : Int) := by
    rw [dB, UInt8.toNat_ofNat']
    omega
  have hc : W.cell? ⟨b, 0, none⟩ = some (.int .u8 ((dB k).toNat : Int)) := by
    rw [← e]
    exact hx.cell 0 _ rfl
  have := run_convert_bytes_back (P := Tryz.prog) W 110 9 5 ⟨b, 0, none⟩ 1 [dB k] Tryz.underlying110 Tryz.underlying5 Tryz.underlying9 fun j hj => by
    obtain rfl : j = 0 := by simpa using hj
    simpa [Addr.add] using hc
  simpa using this
set_option maxHeartbeats 1600000 in
set_option maxRecDepth 100000 in
theorem spec_dec0 (n : Nat) (hn : n < 10) (w : World) : Calls Tryz.prog 37 #[.int .i64 (n : Int)] w (TupPost (.string (decS n)) w) := by
  have hcv := u8_conv w n (48 + (n : Int)) (by omega) rfl
  have hw : IntKind.u8.wrap (48 + (n : Int)) = 48 + (n : Int) := by unfold IntKind.wrap IntKind.signed IntKind.bits; simp; omega
  have e : decS n = ⟨#[dB n]⟩ := by rw [decS, decD_lt hn]; rfl
  rw [e]
  clear e
  go_enter Tryz.func37, Tryz.ntmps37
  go_wp2
  go_ret
  exact ⟨rfl, (Below.refl _ _).alloc (Nat.le_refl _) _⟩
set_option maxHeartbeats 3200000 in
set_option maxRecDepth 100000 in
theorem spec_dec (n : Nat) (hn : n < 100) (w : World) : Calls Tryz.prog 37 #[.int .i64 (n : Int)] w (TupPost (.string (decS n)) w) := by
  by_cases h : n < 10
  · exact spec_dec0 n h w
  obtain ⟨q, r, hq, hr, hq10⟩ : ∃ q r : Nat, n = 10 * q + r ∧ r < 10 ∧ q < 10 := ⟨n / 10, n % 10, by omega, by omega, by omega⟩
  have hd : decS n = decS q ++ ⟨#[dB r]⟩ := by
    rw [decS, decD_ge h, show n / 10 = q by omega, show n % 10 = r by omega, decS]
    apply ByteArray.ext
    simp [dB]
  rw [hd]
  have hw : IntKind.u8.wrap (48 + (r : Int)) = 48 + (r : Int) := by unfold IntKind.wrap IntKind.signed IntKind.bits; simp; omega
  have hwq : IntKind.i64.wrap (q : Int) = (q : Int) := by unfold IntKind.wrap IntKind.signed IntKind.bits; simp; omega
  have hwr : IntKind.i64.wrap (48 + (r : Int)) = 48 + (r : Int) := by unfold IntKind.wrap IntKind.signed IntKind.bits; simp; omega
  have hdiv : (n : Int) / 10 = (q : Int) := by omega
  have hmod : (n : Int) % 10 = (r : Int) := by omega
  have hdiv2 : Int.tdiv (n : Int) 10 = (q : Int) := by rw [Int.tdiv_eq_ediv_of_nonneg (by omega)]; exact hdiv
  have hmod2 : Int.tmod (n : Int) 10 = (r : Int) := by rw [Int.tmod_eq_emod_of_nonneg (by omega)]; exact hmod
  have H := Lib.hid fun W => spec_dec0 q hq10 W
  have hs := decS_size q (by omega)
  have hz : (⟨#[dB r]⟩ : ByteArray).size = 1 := rfl
  generalize decS q = t at *
  have hn2 : ¬ (n : Int) < 10 := by omega
  clear hd hq
  go_enter Tryz.func37, Tryz.ntmps37
  go_wp2_with fail
  go_upto_region 2 with fail
  refine wp_region_free (by kernel_rfl) [
      .val [] (fun _ => .int .i64 (n : Int)),
      .val [] (fun _ => .int .i64 (q : Int)),
      .val [] (fun _ => .string t),
      .val [] (fun _ => .int .i64 (n : Int)),
      .val [] (fun _ => .int .i64 (r : Int)),
      .val [] (fun _ => .int .i64 (48 + (r : Int))),
      .val [] (fun _ => .int .u8 (48 + (r : Int))),
      .own (LitF w.heap.size 5 #[.int .u8 (48 + (r : Int))] 1) (),
      .val [] (fun _ => .string ⟨#[dB r]⟩),
      .val [] (fun _ => .string (t ++ ⟨#[dB r]⟩)),
      .val [] (fun _ => .string (t ++ ⟨#[dB r]⟩))] ?hp ?hfw ?deps ?oks ?steps ?tail
  case hp => kernel_rfl
  case hfw => kernel_rfl
  case deps => kernel_rfl
  case oks =>
    intro F hF
    simp only [List.mem_cons, List.not_mem_nil, or_false] at hF
    rcases hF with rfl | rfl | rfl | rfl | rfl | rfl | rfl | rfl | rfl | rfl | rfl
    all_goals first | trivial | exact ⟨_, litf_ok _ _ _ _⟩
  case steps =>
    refine Steps.cons ?_ ?_
    · refine FreeStep.val [] _ rfl rfl fun u β W hW hn fr hfr K hK => ?_
      simp only [frameL, putL, Act.put, List.setIfInBounds_toArray, List.set_cons_zero, List.set_cons_succ, Nat.zero_add, Nat.reduceAdd] at hfr
      subst hfr
      have HK := Lib.hid hK
      clear hK hn
      go_simp
      have h9 := HK.out
      revert h9
      clear HK
      go_simp
      try exact id
    refine Steps.cons ?_ ?_
    · refine FreeStep.val [] _ rfl rfl fun u β W hW hn fr hfr K hK => ?_
      simp only [frameL, putL, Act.put, List.setIfInBounds_toArray, List.set_cons_zero, List.set_cons_succ, Nat.zero_add, Nat.reduceAdd] at hfr
      subst hfr
      have e0 : u 0 = .int .i64 (n : Int) := Have.get (k := 0) hn rfl
      simp only [e0] at hK
      have HK := Lib.hid hK
      clear hK hn
      go_simp
      have h9 := HK.out
      revert h9
      clear HK
      go_simp
      try exact id
    refine Steps.cons ?_ ?_
    · refine FreeStep.calm [] _ rfl rfl fun u β W hW hn fr hfr K hK => ?_
      simp only [frameL, putL, Act.put, List.setIfInBounds_toArray, List.set_cons_zero, List.set_cons_succ, Nat.zero_add, Nat.reduceAdd] at hfr
      subst hfr
      have e1 : u 1 = .int .i64 (q : Int) := Have.get (k := 1) hn rfl
      simp only [e1] at hK
      have HK := Lib.hid hK
      clear hK hn
      go_simp
      refine (H.out _).mono ?_
      rintro e w1 ⟨rfl, hb1⟩
      have h9 := HK.out _ hb1
      revert h9
      clear HK
      go_simp
      try exact id
    refine Steps.cons ?_ ?_
    · refine FreeStep.val [] _ rfl rfl fun u β W hW hn fr hfr K hK => ?_
      simp only [frameL, putL, Act.put, List.setIfInBounds_toArray, List.set_cons_zero, List.set_cons_succ, Nat.zero_add, Nat.reduceAdd] at hfr
      subst hfr
      have HK := Lib.hid hK
      clear hK hn
      go_simp
      have h9 := HK.out
      revert h9
      clear HK
      go_simp
      try exact id
    refine Steps.cons ?_ ?_
    · refine FreeStep.val [] _ rfl rfl fun u β W hW hn fr hfr K hK => ?_
      simp only [frameL, putL, Act.put, List.setIfInBounds_toArray, List.set_cons_zero, List.set_cons_succ, Nat.zero_add, Nat.reduceAdd] at hfr
      subst hfr
      have e3 : u 3 = .int .i64 (n : Int) := Have.get (k := 3) hn rfl
      simp only [e3] at hK
      have HK := Lib.hid hK
      clear hK hn
      go_simp
      have h9 := HK.out
      revert h9
      clear HK
      go_simp
      try exact id
    refine Steps.cons ?_ ?_
    · refine FreeStep.val [] _ rfl rfl fun u β W hW hn fr hfr K hK => ?_
      simp only [frameL, putL, Act.put, List.setIfInBounds_toArray, List.set_cons_zero, List.set_cons_succ, Nat.zero_add, Nat.reduceAdd] at hfr
      subst hfr
      have e4 : u 4 = .int .i64 (r : Int) := Have.get (k := 4) hn rfl
      simp only [e4] at hK
      have HK := Lib.hid hK
      clear hK hn
      go_simp
      have h9 := HK.out
      revert h9
      clear HK
      go_simp
      try exact id
    refine Steps.cons ?_ ?_
    · refine FreeStep.val [] _ rfl rfl fun u β W hW hn fr hfr K hK => ?_
      simp only [frameL, putL, Act.put, List.setIfInBounds_toArray, List.set_cons_zero, List.set_cons_succ, Nat.zero_add, Nat.reduceAdd] at hfr
      subst hfr
      have e5 : u 5 = .int .i64 (48 + (r : Int)) := Have.get (k := 5) hn rfl
      simp only [e5] at hK
      have HK := Lib.hid hK
      clear hK hn
      go_simp
      have h9 := HK.out
      revert h9
      clear HK
      go_simp
      try exact id
    refine Steps.cons ?_ ?_
    · refine FreeStep.own (base := w.heap.size) rfl (litf_ok _ _ _ _) fun u β W hW hn fr hfr K hK => ?_
      simp only [frameL, putL, Act.put, List.setIfInBounds_toArray, List.set_cons_zero, List.set_cons_succ, Nat.zero_add, Nat.reduceAdd] at hfr
      subst hfr
      have e6 : u 6 = .int .u8 (48 + (r : Int)) := Have.get (k := 6) hn rfl
      simp only [e6] at hK
      have hsz := hW.size
      have HK := Lib.hid hK
      clear hK hn
      go_simp
      exact HK.out _ [W.heap.size] _ ((Below.refl _ _).alloc (Nat.le_refl _) _) (LitF.new _ _ _ W hsz) (fun b hb => by rw [List.mem_singleton.1 hb]; exact Nat.le_refl _)
    refine Steps.cons ?_ ?_
    · refine FreeStep.val [] _ rfl rfl fun u β W hW hn fr hfr K hK => ?_
      simp only [frameL, putL, Act.put, List.setIfInBounds_toArray, List.set_cons_zero, List.set_cons_succ, Nat.zero_add, Nat.reduceAdd] at hfr
      subst hfr
      have f7 : LitF w.heap.size 5 #[.int .u8 (48 + (r : Int))] 1 W (u 7) () (β 7) := Have.get (k := 7) hn rfl
      obtain ⟨b, hb, hx, _, _⟩ := f7
      have hcv := conv_at W hx (by omega)
      simp only [hb] at hK
      have HK := Lib.hid hK
      clear hK hn hx
      go_simp
      have h9 := HK.out
      revert h9
      clear HK
      go_simp
      try exact id
    refine Steps.cons ?_ ?_
    · refine FreeStep.val [] _ rfl rfl fun u β W hW hn fr hfr K hK => ?_
      simp only [frameL, putL, Act.put, List.setIfInBounds_toArray, List.set_cons_zero, List.set_cons_succ, Nat.zero_add, Nat.reduceAdd] at hfr
      subst hfr
      have e2 : u 2 = .string t := Have.get (k := 2) hn rfl
      have e8 : u 8 = .string ⟨#[dB r]⟩ := Have.get (k := 8) hn rfl
      simp only [e2, e8] at hK
      have hq1 : ¬ (9223372036854775807 < t.size + 1) := by omega
      have HK := Lib.hid hK
      clear hK hn
      go_simp
      have h9 := HK.out
      revert h9
      clear HK
      go_simp
      try exact id
    refine Steps.cons ?_ ?_
    · refine FreeStep.val [] _ rfl rfl fun u β W hW hn fr hfr K hK => ?_
      simp only [frameL, putL, Act.put, List.setIfInBounds_toArray, List.set_cons_zero, List.set_cons_succ, Nat.zero_add, Nat.reduceAdd] at hfr
      subst hfr
      have e9 : u 9 = .string (t ++ ⟨#[dB r]⟩) := Have.get (k := 9) hn rfl
      simp only [e9] at hK
      have HK := Lib.hid hK
      clear hK hn
      go_simp
      have h9 := HK.out
      revert h9
      clear HK
      go_simp
      try exact id
    exact Steps.nil
  case tail =>
    intro u_ β W hW hn hdis hbnd
    have z0 : u_ 0 = .int .i64 (n : Int) := Have.get (k := 0) hn rfl
    have z1 : u_ 1 = .int .i64 (q : Int) := Have.get (k := 1) hn rfl
    have z2 : u_ 2 = .string t := Have.get (k := 2) hn rfl
    have z3 : u_ 3 = .int .i64 (n : Int) := Have.get (k := 3) hn rfl
    have z4 : u_ 4 = .int .i64 (r : Int) := Have.get (k := 4) hn rfl
    have z5 : u_ 5 = .int .i64 (48 + (r : Int)) := Have.get (k := 5) hn rfl
    have z6 : u_ 6 = .int .u8 (48 + (r : Int)) := Have.get (k := 6) hn rfl
    have z8 : u_ 8 = .string ⟨#[dB r]⟩ := Have.get (k := 8) hn rfl
    have z9 : u_ 9 = .string (t ++ ⟨#[dB r]⟩) := Have.get (k := 9) hn rfl
    have z10 : u_ 10 = .string (t ++ ⟨#[dB r]⟩) := Have.get (k := 10) hn rfl
    rw [← frameL_eq (by kernel_rfl)]
    clear hn hdis hbnd
    simp only [frameL, putL, Act.put, List.setIfInBounds_toArray, List.set_cons_zero, List.set_cons_succ, Nat.zero_add, Nat.reduceAdd, z0, z1, z2, z3, z4, z5, z6, z8, z9, z10]
    clear z0 z1 z2 z3 z4 z5 z6 z8 z9 z10
    go_wp2
    go_ret
    exact ⟨rfl, hW⟩
end Go.Proofs.YtblgjedjljfmcaaGreatDoor
/- The text of a valid edit, of the model. -/
namespace Go.Proofs.YtblgjedjljfmcaaGreatDoor
open Go.RowKit
set_option linter.unusedVariables false

/-- The word of a kind. -/
def kwS (k : Nat) : ByteArray := if k = 1 then ⟨#[112, 117, 116]⟩ else if k = 2 then ⟨#[99, 117, 116]⟩ else if k = 3 then ⟨#[111, 112, 101, 110]⟩ else if k = 4 then ⟨#[119, 114, 97, 112]⟩ else ⟨#[110, 97, 109, 101]⟩
theorem kwS_size (k : Nat) : (kwS k).size ≤ 4 := by unfold kwS; (repeat' split) <;> decide
/-- What stands for the text. -/
def tailT (s : ByteArray) : ByteArray := if noB s = true then ⟨#[32, 45]⟩ else ⟨#[32]⟩ ++ s
/-- The text of an edit. -/
def textE (k a t : Nat) (s : ByteArray) : ByteArray :=
  if k = 4 then kwS k ++ ⟨#[32]⟩ ++ decS a ++ (⟨#[32]⟩ ++ decS t) ++ tailT s
  else if k = 2 ∨ k = 3 then kwS k ++ ⟨#[32]⟩ ++ decS a
  else kwS k ++ ⟨#[32]⟩ ++ decS a ++ tailT s
/-- What a valid edit is. -/
theorem edB_iff {k a t : Int} {s : ByteArray} (h : edB k a t s = true) : ∃ k' a' t' : Nat, k = (k' : Int) ∧ a = (a' : Int) ∧ t = (t' : Int) ∧ (1 ≤ k' ∧ k' ≤ 5) ∧ a' ≤ 60 ∧ t' ≤ 60 ∧ (k' ≠ 4 → t' = 0) ∧ txtB k s = true ∧ s.size ≤ 60 ∧ (k' = 2 ∨ k' = 3 → s = ⟨#[]⟩) ∧ (k' = 4 ∨ k' = 5 → brkB s = true) := by
  simp only [edB, Bool.and_eq_true, decide_eq_true_eq, Bool.or_eq_true] at h
  obtain ⟨h1, h2, h3, h4, h5⟩ := h
  refine ⟨k.toNat, a.toNat, t.toNat, by omega, by omega, by omega, ⟨by omega, by omega⟩, by omega, by omega, by omega, h5, ?_, ?_, ?_⟩
  · unfold txtB at h5
    split at h5
    · simp only [wmB, Bool.and_eq_true] at h5
      exact ((wB_iff s).1 h5.1).1
    · split at h5
      · rw [brkB_size h5]; omega
      · rcases no_cases s with rfl | ⟨_, n2, _⟩
        · show 0 ≤ 60; omega
        · rw [n2] at h5; cases h5
  · intro hk
    unfold txtB at h5
    rw [if_neg (by omega), if_neg (by omega)] at h5
    rcases no_cases s with rfl | ⟨_, n2, _⟩
    · rfl
    · rw [n2] at h5; cases h5
  · intro hk
    unfold txtB at h5
    rwa [if_neg (by omega), if_pos (by omega)] at h5
theorem brkB_no {s : ByteArray} (h : brkB s = true) : noB s = false := by
  have := brkB_size h
  rcases no_cases s with rfl | ⟨_, n2, _⟩
  · cases this
  · exact n2
theorem names_run (w : World) : Calls Tryz.prog 20 #[] w fun e w' => e = .returned (.slice (some ⟨w.heap.size, 0, none⟩) 6 6) ∧ w' = w.alloc (.cells #[.string ⟨#[]⟩, .string ⟨#[112, 117, 116]⟩, .string ⟨#[99, 117, 116]⟩, .string ⟨#[111, 112, 101, 110]⟩, .string ⟨#[119, 114, 97, 112]⟩, .string ⟨#[110, 97, 109, 101]⟩] 9) := by
  go_enter Tryz.func20, Tryz.ntmps20
  go_wp2
  go_ret
  exact ⟨rfl, rfl⟩
theorem names_at (k : Nat) (hk : 1 ≤ k ∧ k ≤ 5) : (#[.string ⟨#[]⟩, .string ⟨#[112, 117, 116]⟩, .string ⟨#[99, 117, 116]⟩, .string ⟨#[111, 112, 101, 110]⟩, .string ⟨#[119, 114, 97, 112]⟩, .string ⟨#[110, 97, 109, 101]⟩] : Array Value)[k]? = some (.string (kwS k)) := by
  obtain rfl | rfl | rfl | rfl | rfl : k = 1 ∨ k = 2 ∨ k = 3 ∨ k = 4 ∨ k = 5 := by omega
  all_goals rfl
set_option maxHeartbeats 6400000 in
set_option maxRecDepth 100000 in
theorem spec_text {B : Nat} (k a t : Nat) (s : ByteArray) (w : World) (hk : 1 ≤ k ∧ k ≤ 5) (ha : a ≤ 60) (ht : t ≤ 60) (h60 : s.size ≤ 60) (hx : Bx w B 25 #[.int .i64 (k : Int), .int .i64 (a : Int), .int .i64 (t : Int), .string s]) :
    Calls Tryz.prog 23 #[.pointer (some ⟨B, 0, none⟩)] w (TupPost (.string (textE k a t s)) w) := by
  have hA := fun W => spec_dec a (by omega) W
  have hsa := decS_size a (by omega)
  have hT := fun W => spec_dec t (by omega) W
  have hst := decS_size t (by omega)
  have hsk := kwS_size k
  have hat := names_at k hk
  have HR := Lib.hid (show textE k a t s = if k = 4 then kwS k ++ ⟨#[32]⟩ ++ decS a ++ (⟨#[32]⟩ ++ decS t) ++ tailT s else if k = 2 ∨ k = 3 then kwS k ++ ⟨#[32]⟩ ++ decS a else kwS k ++ ⟨#[32]⟩ ++ decS a ++ tailT s from rfl)
  have Hs : Hid (s = ⟨#[]⟩ ∧ tailT s = ⟨#[32, 45]⟩ ∨ (s.toList == []) = false ∧ tailT s = ⟨#[32]⟩ ++ s) := by
    rcases no_cases s with h | ⟨n1, n2, _⟩
    · exact .inl ⟨h, by rw [h]; rfl⟩
    · exact .inr ⟨ba_beq n1, by unfold tailT; rw [if_neg (by rw [n2]; simp)]⟩
  generalize textE k a t s = R at *
  generalize tailT s = tt at *
  generalize decS a = da at *
  generalize decS t = dt at *
  generalize kwS k = kw at *
  have HA := Lib.hid hA
  have HX := Lib.hid hx
  have HT := Lib.hid hT
  have NMC := (Bx.new w 9 #[.string ⟨#[]⟩, .string ⟨#[112, 117, 116]⟩, .string ⟨#[99, 117, 116]⟩, .string ⟨#[111, 112, 101, 110]⟩, .string ⟨#[119, 114, 97, 112]⟩, .string ⟨#[110, 97, 109, 101]⟩]).cell k (.string kw) hat
  have NMD : ((w.alloc (.cells #[.string ⟨#[]⟩, .string ⟨#[112, 117, 116]⟩, .string ⟨#[99, 117, 116]⟩, .string ⟨#[111, 112, 101, 110]⟩, .string ⟨#[119, 114, 97, 112]⟩, .string ⟨#[110, 97, 109, 101]⟩] 9)).drew).cell? ⟨w.heap.size, k, none⟩ = some (.string kw) := NMC
  have HN := Lib.hid (And.intro NMC NMD)
  have Hat := Lib.hid hat
  have hR := Below.refl w.heap.size w
  have hN := hR.alloc (Nat.le_refl _) (.cells #[.string ⟨#[]⟩, .string ⟨#[112, 117, 116]⟩, .string ⟨#[99, 117, 116]⟩, .string ⟨#[111, 112, 101, 110]⟩, .string ⟨#[119, 114, 97, 112]⟩, .string ⟨#[110, 97, 109, 101]⟩] 9)
  obtain ⟨c0, c1, c2, c3, cl⟩ := id hx.all4
  have hk6 : (k : Int) < 6 := by omega
  have hk0 : (0 : Int) ≤ (k : Int) := by omega
  have z0 : (⟨#[32]⟩ : ByteArray).size = 1 := rfl
  have hq1 : ¬ (9223372036854775807 < kw.size + 1) := by omega
  have hq2 : ¬ (9223372036854775807 < kw.size + 1 + da.size) := by omega
  clear hA hT hx hat NMC NMD ha ht
  go_enter Tryz.func23, Tryz.ntmps23
  go_wp2_with fail
  go_cut [3] (fun so wx => so = .string (kw ++ ⟨#[32]⟩ ++ da) ∧ Below w.heap.size w wx)
  case first =>
    go_region_with (first
      | (go_at_call 20
         refine (names_run _).mono ?_
         rintro e wn ⟨rfl, rfl⟩
         first
           | have hnn := (Bx.new wd 9 #[.string ⟨#[]⟩, .string ⟨#[112, 117, 116]⟩, .string ⟨#[99, 117, 116]⟩, .string ⟨#[111, 112, 101, 110]⟩, .string ⟨#[119, 114, 97, 112]⟩, .string ⟨#[110, 97, 109, 101]⟩]).cell k (.string kw) Hat.out
           | (have hnn := HN.out.1
              have hnm := HN.out.2))
      | (go_at_call 37
         refine (HA.out _).mono ?_
         rintro e wd ⟨rfl, hbd⟩
         have hd1 : Below w.heap.size w wd := by first | exact hR.drew.trans (hbd.mono hR.drew.size) | exact hN.drew.trans (hbd.mono hN.drew.size) | exact hN.trans (hbd.mono hN.size) | exact hbd
         have hxd := HX.out.later hd1
         obtain ⟨g0, g1, g2, g3, gl⟩ := id hxd.all4
         try have hnd : wd.cell? ⟨w.heap.size, k, none⟩ = some (.string kw) := by first | exact (hbd.cell (p := ⟨w.heap.size, k, none⟩) (by simp)).trans HN.out.1 | exact (hbd.cell (p := ⟨w.heap.size, k, none⟩) (by simp)).trans HN.out.2))
    all_goals
      go_wp2_with fail
      go_meet
      exact ⟨rfl, by first | exact hd1 | exact hd1.alloc hd1.size _⟩
  case rest =>
    obtain ⟨rfl, hwc⟩ := hcut
    have hx2 := HX.out.later hwc
    have HB := Lib.hid (And.intro hwc hx2)
    clear c0 c1 c2 c3 cl hwc hx2 hR hN hq1 hq2 hk6 hk0
    obtain ⟨e0, e1, e2, e3, el⟩ := id HB.out.2.all4
    have z2 : (kw ++ ⟨#[32]⟩ ++ da : ByteArray).size ≤ 7 := by rw [ByteArray.size_append, ByteArray.size_append]; omega
    generalize (kw ++ ⟨#[32]⟩ ++ da : ByteArray) = o1 at *
    have H1 : k = 1 → R = o1 ++ tt := fun h => by rw [HR.out]; subst h; rfl
    have H2 : k = 2 → R = o1 := fun h => by rw [HR.out]; subst h; rfl
    have H3 : k = 3 → R = o1 := fun h => by rw [HR.out]; subst h; rfl
    have H4 : k = 4 → R = o1 ++ (⟨#[32]⟩ ++ dt) ++ tt := fun h => by rw [HR.out]; subst h; rfl
    have H5 : k = 5 → R = o1 ++ tt := fun h => by rw [HR.out]; subst h; rfl
    clear HR hsk hsa z0
    have z0 : (⟨#[32]⟩ : ByteArray).size = 1 := rfl
    obtain rfl | rfl | rfl | rfl | rfl : k = 1 ∨ k = 2 ∨ k = 3 ∨ k = 4 ∨ k = 5 := by omega
    case inr.inl =>
      obtain rfl := H2 rfl
      clear H1 H2 H3 H4 H5
      go_wp2
      go_ret
      exact ⟨rfl, HB.out.1⟩
    case inr.inr.inl =>
      obtain rfl := H3 rfl
      clear H1 H2 H3 H4 H5
      go_wp2
      go_ret
      exact ⟨rfl, HB.out.1⟩
    case inr.inr.inr.inl =>
      obtain rfl := H4 rfl
      clear H1 H2 H3 H4 H5
      have z3 : (⟨#[32]⟩ ++ dt : ByteArray).size ≤ 3 := by rw [ByteArray.size_append]; omega
      go_wp2_with fail
      refine (HT.out _).mono ?_
      rintro e w2 ⟨rfl, hb2⟩
      clear e0 e1 e2 e3 el
      have hx3 := HB.out.2.later hb2
      have HB := Lib.hid (And.intro (HB.out.1.trans (hb2.mono HB.out.1.size)) hx3)
      clear hb2 hx3
      obtain ⟨e0, e1, e2, e3, el⟩ := id HB.out.2.all4
      have y1 : ¬ (9223372036854775807 < 1 + dt.size) := by omega
      have y2 : ¬ (9223372036854775807 < o1.size + (1 + dt.size)) := by omega
      rcases Hs.out with ⟨rfl, rfl⟩ | ⟨n1, rfl⟩
      · have y3 : ¬ (9223372036854775807 < o1.size + (1 + dt.size) + 2) := by omega
        go_wp2
        go_ret
        exact ⟨rfl, HB.out.1⟩
      · have y3 : ¬ (9223372036854775807 < o1.size + (1 + dt.size) + (1 + s.size)) := by omega
        have y4 : ¬ (9223372036854775807 < 1 + s.size) := by omega
        go_wp2
        go_ret
        exact ⟨rfl, HB.out.1⟩
    case inl =>
      obtain rfl := H1 rfl
      clear H1 H2 H3 H4 H5
      rcases Hs.out with ⟨rfl, rfl⟩ | ⟨n1, rfl⟩
      · have y3 : ¬ (9223372036854775807 < o1.size + 2) := by omega
        go_wp2
        go_ret
        exact ⟨rfl, HB.out.1⟩
      · have y3 : ¬ (9223372036854775807 < o1.size + (1 + s.size)) := by omega
        have y4 : ¬ (9223372036854775807 < 1 + s.size) := by omega
        go_wp2
        go_ret
        exact ⟨rfl, HB.out.1⟩
    case inr.inr.inr.inr =>
      obtain rfl := H5 rfl
      clear H1 H2 H3 H4 H5
      rcases Hs.out with ⟨rfl, rfl⟩ | ⟨n1, rfl⟩
      · have y3 : ¬ (9223372036854775807 < o1.size + 2) := by omega
        go_wp2
        go_ret
        exact ⟨rfl, HB.out.1⟩
      · have y3 : ¬ (9223372036854775807 < o1.size + (1 + s.size)) := by omega
        have y4 : ¬ (9223372036854775807 < 1 + s.size) := by omega
        go_wp2
        go_ret
        exact ⟨rfl, HB.out.1⟩
end Go.Proofs.YtblgjedjljfmcaaGreatDoor
