/- ShapeOf, of the model and of the program. -/
import Derived.Test.YtmkamodmnplclaaWord
namespace Go.Proofs.Ytmkamodmnplclaa
open Go.RowKit

def shapeS (n : Int) : Int := if n ≤ 1 then 0 else if n = 2 ∨ n = 3 then 2 else 4
def shapeB (b : UInt8) : UInt8 := byteOf (shapeS (symNo b.toNat))
theorem shapeS_ok (n : Int) : 0 ≤ shapeS n ∧ shapeS n ≤ 5 := by unfold shapeS; split <;> (try split) <;> omega

theorem impl_shape (n : Int) (w : World) (h : 0 ≤ n ∧ n ≤ 5) :
    Calls Try.prog 104 #[.int .u8 n] w fun e w' => e = .returned (.int .u8 (shapeS n)) ∧ w = w' := by
  rcases six n h with rfl | rfl | rfl | rfl | rfl | rfl
  all_goals
    go_enter Try.func104, Try.ntmps104
    go_wp2
    go_ret
    exact ⟨rfl, rfl⟩

theorem shape_call {b : UInt8} (h : callB (b.toNat : Int) = true) : shapeB b = 40 := by
  simp only [callB, decide_eq_true_eq] at h
  rcases h with h | h <;> (unfold shapeB; rw [h]; rfl)
theorem shape_ret {b : UInt8} (h : retB (b.toNat : Int) = true) : shapeB b = 41 := by
  simp only [retB, decide_eq_true_eq] at h
  rcases h with h | h <;> (unfold shapeB; rw [h]; rfl)
theorem shape_in {b : UInt8} (h : callB (b.toNat : Int) = false) (h1 : retB (b.toNat : Int) = false) (hs : 0 ≤ symNo (b.toNat : Int)) : shapeB b = 97 := by
  simp only [callB, retB, decide_eq_false_iff_not] at h h1
  have : (b.toNat : Int) = 97 ∨ (b.toNat : Int) = 98 := by
    unfold symNo at hs
    rw [if_neg (by omega), if_neg (by omega), if_neg (by omega), if_neg (by omega)] at hs
    by_cases h4 : (b.toNat : Int) = 97
    · exact .inl h4
    · rw [if_neg h4] at hs
      by_cases h5 : (b.toNat : Int) = 98
      · exact .inr h5
      · rw [if_neg h5] at hs; omega
  rcases this with h | h <;> (unfold shapeB; rw [h]; rfl)

theorem add_byte {t : ByteArray} {l : List UInt8} {k : Nat} {b x : UInt8} {f : UInt8 → UInt8} (ht : t.data.toList = (l.take k).map f) (hk : t.size ≤ k) (hb : l[k]? = some b) (hx : f b = x) :
    (t ++ ⟨#[x]⟩).size ≤ k + 1 ∧ (t ++ ⟨#[x]⟩).data.toList = (l.take (k + 1)).map f := by
  refine ⟨?_, ?_⟩
  · rw [ByteArray.size_append]
    have : (ByteArray.mk #[x]).size = 1 := rfl
    omega
  · rw [List.take_add_one, hb, ByteArray.data_append, Array.toList_append, ht]
    simp [hx]

theorem impl_ShapeOf_no (s : ByteArray) (w : World) (hs : s.size ≤ 1048576) (h : ¬ IsW s) :
    Calls Try.prog 65 #[.string s] w (TupPost (.tuple #[.string ⟨#[]⟩, .int .i64 1]) w) := by
  have H := Lib.hid h
  clear h
  go_enter Try.func65, Try.ntmps65
  go_wp2_with (go_at_call 66; refine (impl_read_no _ _ hs H.out).mono ?_; rintro e w1 ⟨rfl, hb⟩)
  go_ret2
  exact ⟨rfl, hb.alloc hb.size _⟩

theorem symsV_at' {w : World} {base g n c : Nat} {l : List UInt8} (h : w.ownsRow base 83 1 (.slice (some ⟨g, 0, none⟩) n c) n (symsV (symL l))) (k : Nat) (b : UInt8) (hb : l[k]? = some b) (hk : k < n) :
    w.cell? ⟨g, k, none⟩ = some (.int .u8 (symNo b.toNat)) := by
  rw [h.cellAt k (by omega)]
  simp [symsV, symL, hb]

set_option maxHeartbeats 1600000 in
set_option maxRecDepth 100000 in
theorem impl_ShapeOf_yes (s : ByteArray) (w : World) (h : IsW s) :
    Calls Try.prog 65 #[.string s] w (TupPost (.tuple #[.string ⟨(s.data.toList.map shapeB).toArray⟩, .int .i64 0]) w) := by
  have hp := fun w => impl_read_yes s w h.1 h.2
  have h60 := h.1
  have hall := h.2
  obtain ⟨l, hl⟩ : ∃ l, l = s.data.toList := ⟨_, rfl⟩
  have hlen : l.length = s.size := by rw [hl]; simp
  rw [← hl] at hp hall ⊢
  have Hp := Lib.hid hp
  have Hlen := Lib.hid hlen
  have Hall := Lib.hid hall
  clear h hp hl hlen hall
  go_enter Try.func65, Try.ntmps65
  go_wp2_with (go_at_call 66; refine (Hp.out _).mono ?_; rintro e w1 ⟨M, rfl, hsy, _, hb⟩)
  have hsy2 := hsy.alloc (.cells #[.slice (some ⟨w.heap.size + 1 + 1, 0, none⟩) s.size s.size, .slice (some ⟨M, 0, none⟩) s.size s.size] 97)
  have hb2 := hb.alloc hb.size (.cells #[.slice (some ⟨w.heap.size + 1 + 1, 0, none⟩) s.size s.size, .slice (some ⟨M, 0, none⟩) s.size s.size] 97)
  clear hsy hb
  go_loop [6, 19] (fun v i => ∃ (k : Nat) (t : ByteArray), k ≤ s.size ∧ i = .int .i64 k ∧ v = .string t ∧ t.size ≤ k ∧ Hid (t.data.toList = (l.take k).map shapeB)) (fun _ i => s.size - (intOf i).toNat)
  case atStart => exact ⟨0, ⟨#[]⟩, Nat.zero_le _, rfl, rfl, Nat.le_refl _, rfl⟩
  case round =>
    obtain ⟨k, t, hk, rfl, rfl, htk, ht⟩ := hrel
    by_cases hlt : k < s.size
    · obtain ⟨b, hlb⟩ : ∃ b, l[k]? = some b := ⟨_, List.getElem?_eq_getElem (by rw [Hlen.out]; exact hlt)⟩
      have hx : 0 ≤ symNo (b.toNat : Int) ∧ symNo (b.toNat : Int) ≤ 5 := ⟨Hall.out _ (List.mem_of_getElem? hlb), symNo_le _⟩
      have hc := symsV_at' hsy2 k b hlb hlt
      have fin := add_byte (x := byteOf (shapeS (symNo b.toNat))) ht.out htk hlb rfl
      have Fin := Lib.hid fin
      clear hlb fin
      have ht60 : t.size ≤ 60 := by omega
      go_wp2_with (first
        | (go_at_call 104; refine (impl_shape _ _ hx).mono ?_; rintro e w' ⟨rfl, rfl⟩)
        | (go_at_call 56; refine (impl_text _ _ (shapeS_ok _)).mono ?_; rintro e w' ⟨rfl, rfl⟩))
      go_round
      case rel => exact ⟨k + 1, _, by omega, by go_num, rfl, Fin.out.1, Fin.out.2⟩
      case measure => simp [intOf]; omega
    · have e : k = s.size := by omega
      subst e
      have e2 : t = ⟨(l.map shapeB).toArray⟩ := by
        have h1 := ht.out
        rw [List.take_of_length_le (by rw [Hlen.out]; exact Nat.le_refl _)] at h1
        rw [← h1]
      subst e2
      clear ht htk
      go_wp2
      go_ret2
      exact ⟨rfl, hb2⟩

end Go.Proofs.Ytmkamodmnplclaa
