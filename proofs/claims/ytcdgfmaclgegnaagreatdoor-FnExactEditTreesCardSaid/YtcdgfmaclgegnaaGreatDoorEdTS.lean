/- The text of a valid edit, of the model. -/
import Derived.Test.YtcdgfmaclgegnaaGreatDoorEdM
import Derived.Test.YtcdgfmaclgegnaaGreatDoorDec
import Derived.Deep.DeepCutAuto
namespace Go.Proofs.YtcdgfmaclgegnaaGreatDoor
open Go.RowKit
set_option linter.unusedVariables false

/-- The word of a kind. -/
def kwS (k : Nat) : ByteArray := if k = 1 then ⟨#[112, 117, 116]⟩ else if k = 2 then ⟨#[99, 117, 116]⟩ else if k = 3 then ⟨#[111, 112, 101, 110]⟩ else if k = 4 then ⟨#[119, 114, 97, 112]⟩ else ⟨#[110, 97, 109, 101]⟩
theorem kwS_size (k : Nat) : (kwS k).size ≤ 4 := by unfold kwS; (repeat' split) <;> decide
/-- What stands for the text. -/
def tailT (s : ByteArray) : ByteArray := if noB s = true then ⟨#[32, 45]⟩ else ⟨#[32]⟩ ++ s
/-- The text of an edit. -/
def textE (k a t : Nat) (s : ByteArray) : ByteArray :=
  if k = 4 then kwS k ++ ⟨#[32]⟩ ++ decS a ++ (⟨#[32]⟩ ++ decS t) ++ tailT s
  else if k = 2 ∨ k = 3 then kwS k ++ ⟨#[32]⟩ ++ decS a
  else kwS k ++ ⟨#[32]⟩ ++ decS a ++ tailT s
/-- What a valid edit is. -/
theorem edB_iff {k a t : Int} {s : ByteArray} (h : edB k a t s = true) : ∃ k' a' t' : Nat, k = (k' : Int) ∧ a = (a' : Int) ∧ t = (t' : Int) ∧ (1 ≤ k' ∧ k' ≤ 5) ∧ a' ≤ 60 ∧ t' ≤ 60 ∧ (k' ≠ 4 → t' = 0) ∧ txtB k s = true ∧ s.size ≤ 60 ∧ (k' = 2 ∨ k' = 3 → s = ⟨#[]⟩) ∧ (k' = 4 ∨ k' = 5 → brkB s = true) := by
  simp only [edB, Bool.and_eq_true, decide_eq_true_eq, Bool.or_eq_true] at h
  obtain ⟨h1, h2, h3, h4, h5⟩ := h
  refine ⟨k.toNat, a.toNat, t.toNat, by omega, by omega, by omega, ⟨by omega, by omega⟩, by omega, by omega, by omega, h5, ?_, ?_, ?_⟩
  · unfold txtB at h5
    split at h5
    · simp only [wmB, Bool.and_eq_true] at h5
      exact ((wB_iff s).1 h5.1).1
    · split at h5
      · rw [brkB_size h5]; omega
      · rcases no_cases s with rfl | ⟨_, n2, _⟩
        · show 0 ≤ 60; omega
        · rw [n2] at h5; cases h5
  · intro hk
    unfold txtB at h5
    rw [if_neg (by omega), if_neg (by omega)] at h5
    rcases no_cases s with rfl | ⟨_, n2, _⟩
    · rfl
    · rw [n2] at h5; cases h5
  · intro hk
    unfold txtB at h5
    rwa [if_neg (by omega), if_pos (by omega)] at h5
theorem brkB_no {s : ByteArray} (h : brkB s = true) : noB s = false := by
  have := brkB_size h
  rcases no_cases s with rfl | ⟨_, n2, _⟩
  · cases this
  · exact n2
theorem names_run (w : World) : Calls Tryz.prog 19 #[] w fun e w' => e = .returned (.slice (some ⟨w.heap.size, 0, none⟩) 6 6) ∧ w' = w.alloc (.cells #[.string ⟨#[]⟩, .string ⟨#[112, 117, 116]⟩, .string ⟨#[99, 117, 116]⟩, .string ⟨#[111, 112, 101, 110]⟩, .string ⟨#[119, 114, 97, 112]⟩, .string ⟨#[110, 97, 109, 101]⟩] 9) := by
  go_enter Tryz.func19, Tryz.ntmps19
  go_wp2
  go_ret
  exact ⟨rfl, rfl⟩
theorem names_at (k : Nat) (hk : 1 ≤ k ∧ k ≤ 5) : (#[.string ⟨#[]⟩, .string ⟨#[112, 117, 116]⟩, .string ⟨#[99, 117, 116]⟩, .string ⟨#[111, 112, 101, 110]⟩, .string ⟨#[119, 114, 97, 112]⟩, .string ⟨#[110, 97, 109, 101]⟩] : Array Value)[k]? = some (.string (kwS k)) := by
  obtain rfl | rfl | rfl | rfl | rfl : k = 1 ∨ k = 2 ∨ k = 3 ∨ k = 4 ∨ k = 5 := by omega
  all_goals rfl
set_option maxHeartbeats 6400000 in
set_option maxRecDepth 100000 in
theorem spec_text {B : Nat} (k a t : Nat) (s : ByteArray) (w : World) (hk : 1 ≤ k ∧ k ≤ 5) (ha : a ≤ 60) (ht : t ≤ 60) (h60 : s.size ≤ 60) (hx : Bx w B 23 #[.int .i64 (k : Int), .int .i64 (a : Int), .int .i64 (t : Int), .string s]) :
    Calls Tryz.prog 22 #[.pointer (some ⟨B, 0, none⟩)] w (TupPost (.string (textE k a t s)) w) := by
  have hA := fun W => spec_dec a (by omega) W
  have hsa := decS_size a (by omega)
  have hT := fun W => spec_dec t (by omega) W
  have hst := decS_size t (by omega)
  have hsk := kwS_size k
  have hat := names_at k hk
  have HR := Lib.hid (show textE k a t s = if k = 4 then kwS k ++ ⟨#[32]⟩ ++ decS a ++ (⟨#[32]⟩ ++ decS t) ++ tailT s else if k = 2 ∨ k = 3 then kwS k ++ ⟨#[32]⟩ ++ decS a else kwS k ++ ⟨#[32]⟩ ++ decS a ++ tailT s from rfl)
  have Hs : Hid (s = ⟨#[]⟩ ∧ tailT s = ⟨#[32, 45]⟩ ∨ (s.toList == []) = false ∧ tailT s = ⟨#[32]⟩ ++ s) := by
    rcases no_cases s with h | ⟨n1, n2, _⟩
    · exact .inl ⟨h, by rw [h]; rfl⟩
    · exact .inr ⟨ba_beq n1, by unfold tailT; rw [if_neg (by rw [n2]; simp)]⟩
  generalize textE k a t s = R at *
  generalize tailT s = tt at *
  generalize decS a = da at *
  generalize decS t = dt at *
  generalize kwS k = kw at *
  have HA := Lib.hid hA
  have HX := Lib.hid hx
  have HT := Lib.hid hT
  have NMC := (Bx.new w 9 #[.string ⟨#[]⟩, .string ⟨#[112, 117, 116]⟩, .string ⟨#[99, 117, 116]⟩, .string ⟨#[111, 112, 101, 110]⟩, .string ⟨#[119, 114, 97, 112]⟩, .string ⟨#[110, 97, 109, 101]⟩]).cell k (.string kw) hat
  have NMD : ((w.alloc (.cells #[.string ⟨#[]⟩, .string ⟨#[112, 117, 116]⟩, .string ⟨#[99, 117, 116]⟩, .string ⟨#[111, 112, 101, 110]⟩, .string ⟨#[119, 114, 97, 112]⟩, .string ⟨#[110, 97, 109, 101]⟩] 9)).drew).cell? ⟨w.heap.size, k, none⟩ = some (.string kw) := NMC
  have HN := Lib.hid (And.intro NMC NMD)
  have Hat := Lib.hid hat
  have hR := Below.refl w.heap.size w
  have hN := hR.alloc (Nat.le_refl _) (.cells #[.string ⟨#[]⟩, .string ⟨#[112, 117, 116]⟩, .string ⟨#[99, 117, 116]⟩, .string ⟨#[111, 112, 101, 110]⟩, .string ⟨#[119, 114, 97, 112]⟩, .string ⟨#[110, 97, 109, 101]⟩] 9)
  obtain ⟨c0, c1, c2, c3, cl⟩ := id hx.all4
  have hk6 : (k : Int) < 6 := by omega
  have hk0 : (0 : Int) ≤ (k : Int) := by omega
  have z0 : (⟨#[32]⟩ : ByteArray).size = 1 := rfl
  have hq1 : ¬ (9223372036854775807 < kw.size + 1) := by omega
  have hq2 : ¬ (9223372036854775807 < kw.size + 1 + da.size) := by omega
  clear hA hT hx hat NMC NMD ha ht
  go_enter Tryz.func22, Tryz.ntmps22
  go_wp2_with fail
  go_cut [3] (fun so wx => so = .string (kw ++ ⟨#[32]⟩ ++ da) ∧ Below w.heap.size w wx)
  case first =>
    go_region_with (first
      | (go_at_call 19
         refine (names_run _).mono ?_
         rintro e wn ⟨rfl, rfl⟩
         first
           | have hnn := (Bx.new wd 9 #[.string ⟨#[]⟩, .string ⟨#[112, 117, 116]⟩, .string ⟨#[99, 117, 116]⟩, .string ⟨#[111, 112, 101, 110]⟩, .string ⟨#[119, 114, 97, 112]⟩, .string ⟨#[110, 97, 109, 101]⟩]).cell k (.string kw) Hat.out
           | (have hnn := HN.out.1
              have hnm := HN.out.2))
      | (go_at_call 40
         refine (HA.out _).mono ?_
         rintro e wd ⟨rfl, hbd⟩
         have hd1 : Below w.heap.size w wd := by first | exact hR.drew.trans (hbd.mono hR.drew.size) | exact hN.drew.trans (hbd.mono hN.drew.size) | exact hN.trans (hbd.mono hN.size) | exact hbd
         have hxd := HX.out.later hd1
         obtain ⟨g0, g1, g2, g3, gl⟩ := id hxd.all4
         try have hnd : wd.cell? ⟨w.heap.size, k, none⟩ = some (.string kw) := by first | exact (hbd.cell (p := ⟨w.heap.size, k, none⟩) (by simp)).trans HN.out.1 | exact (hbd.cell (p := ⟨w.heap.size, k, none⟩) (by simp)).trans HN.out.2))
    all_goals
      go_wp2_with fail
      go_meet
      exact ⟨rfl, by first | exact hd1 | exact hd1.alloc hd1.size _⟩
  case rest =>
    obtain ⟨rfl, hwc⟩ := hcut
    have hx2 := HX.out.later hwc
    have HB := Lib.hid (And.intro hwc hx2)
    clear c0 c1 c2 c3 cl hwc hx2 hR hN hq1 hq2 hk6 hk0
    obtain ⟨e0, e1, e2, e3, el⟩ := id HB.out.2.all4
    have z2 : (kw ++ ⟨#[32]⟩ ++ da : ByteArray).size ≤ 7 := by rw [ByteArray.size_append, ByteArray.size_append]; omega
    generalize (kw ++ ⟨#[32]⟩ ++ da : ByteArray) = o1 at *
    have H1 : k = 1 → R = o1 ++ tt := fun h => by rw [HR.out]; subst h; rfl
    have H2 : k = 2 → R = o1 := fun h => by rw [HR.out]; subst h; rfl
    have H3 : k = 3 → R = o1 := fun h => by rw [HR.out]; subst h; rfl
    have H4 : k = 4 → R = o1 ++ (⟨#[32]⟩ ++ dt) ++ tt := fun h => by rw [HR.out]; subst h; rfl
    have H5 : k = 5 → R = o1 ++ tt := fun h => by rw [HR.out]; subst h; rfl
    clear HR hsk hsa z0
    have z0 : (⟨#[32]⟩ : ByteArray).size = 1 := rfl
    obtain rfl | rfl | rfl | rfl | rfl : k = 1 ∨ k = 2 ∨ k = 3 ∨ k = 4 ∨ k = 5 := by omega
    case inr.inl =>
      obtain rfl := H2 rfl
      clear H1 H2 H3 H4 H5
      go_wp2
      go_ret
      exact ⟨rfl, HB.out.1⟩
    case inr.inr.inl =>
      obtain rfl := H3 rfl
      clear H1 H2 H3 H4 H5
      go_wp2
      go_ret
      exact ⟨rfl, HB.out.1⟩
    case inr.inr.inr.inl =>
      obtain rfl := H4 rfl
      clear H1 H2 H3 H4 H5
      have z3 : (⟨#[32]⟩ ++ dt : ByteArray).size ≤ 3 := by rw [ByteArray.size_append]; omega
      go_wp2_with fail
      refine (HT.out _).mono ?_
      rintro e w2 ⟨rfl, hb2⟩
      clear e0 e1 e2 e3 el
      have hx3 := HB.out.2.later hb2
      have HB := Lib.hid (And.intro (HB.out.1.trans (hb2.mono HB.out.1.size)) hx3)
      clear hb2 hx3
      obtain ⟨e0, e1, e2, e3, el⟩ := id HB.out.2.all4
      have y1 : ¬ (9223372036854775807 < 1 + dt.size) := by omega
      have y2 : ¬ (9223372036854775807 < o1.size + (1 + dt.size)) := by omega
      rcases Hs.out with ⟨rfl, rfl⟩ | ⟨n1, rfl⟩
      · have y3 : ¬ (9223372036854775807 < o1.size + (1 + dt.size) + 2) := by omega
        go_wp2
        go_ret
        exact ⟨rfl, HB.out.1⟩
      · have y3 : ¬ (9223372036854775807 < o1.size + (1 + dt.size) + (1 + s.size)) := by omega
        have y4 : ¬ (9223372036854775807 < 1 + s.size) := by omega
        go_wp2
        go_ret
        exact ⟨rfl, HB.out.1⟩
    case inl =>
      obtain rfl := H1 rfl
      clear H1 H2 H3 H4 H5
      rcases Hs.out with ⟨rfl, rfl⟩ | ⟨n1, rfl⟩
      · have y3 : ¬ (9223372036854775807 < o1.size + 2) := by omega
        go_wp2
        go_ret
        exact ⟨rfl, HB.out.1⟩
      · have y3 : ¬ (9223372036854775807 < o1.size + (1 + s.size)) := by omega
        have y4 : ¬ (9223372036854775807 < 1 + s.size) := by omega
        go_wp2
        go_ret
        exact ⟨rfl, HB.out.1⟩
    case inr.inr.inr.inr =>
      obtain rfl := H5 rfl
      clear H1 H2 H3 H4 H5
      rcases Hs.out with ⟨rfl, rfl⟩ | ⟨n1, rfl⟩
      · have y3 : ¬ (9223372036854775807 < o1.size + 2) := by omega
        go_wp2
        go_ret
        exact ⟨rfl, HB.out.1⟩
      · have y3 : ¬ (9223372036854775807 < o1.size + (1 + s.size)) := by omega
        have y4 : ¬ (9223372036854775807 < 1 + s.size) := by omega
        go_wp2
        go_ret
        exact ⟨rfl, HB.out.1⟩
end Go.Proofs.YtcdgfmaclgegnaaGreatDoor
