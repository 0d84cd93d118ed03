/- TurnWord, of the model and of the program. -/
import Derived.Test.YtnclhgaikglbgaaWord
import Derived.Laws.IdiomStrings
namespace Go.Proofs.Ytnclhgaikglbgaa
open Go.RowKit

theorem valid_byte {b : UInt8} (h : 0 ≤ symNo (b.toNat : Int)) : b = 40 ∨ b = 91 ∨ b = 41 ∨ b = 93 ∨ b = 97 ∨ b = 98 := by
  unfold symNo at h
  have f (k : UInt8) (e : (b.toNat : Int) = k.toNat) : b = k := UInt8.toNat_inj.1 (by omega)
  by_cases h0 : (b.toNat : Int) = 40
  · exact .inl (f 40 h0)
  by_cases h1 : (b.toNat : Int) = 91
  · exact .inr (.inl (f 91 h1))
  by_cases h2 : (b.toNat : Int) = 41
  · exact .inr (.inr (.inl (f 41 h2)))
  by_cases h3 : (b.toNat : Int) = 93
  · exact .inr (.inr (.inr (.inl (f 93 h3))))
  by_cases h4 : (b.toNat : Int) = 97
  · exact .inr (.inr (.inr (.inr (.inl (f 97 h4)))))
  by_cases h5 : (b.toNat : Int) = 98
  · exact .inr (.inr (.inr (.inr (.inr (f 98 h5)))))
  rw [if_neg h0, if_neg h1, if_neg h2, if_neg h3, if_neg h4, if_neg h5] at h
  omega

def turnB (b : UInt8) : UInt8 := byteOf (turnS (symNo b.toNat))
theorem other_turn {b : UInt8} (h : 0 ≤ symNo (b.toNat : Int)) : otherB b.toNat = ((turnB b).toNat : Int) := by
  rcases valid_byte h with rfl | rfl | rfl | rfl | rfl | rfl <;> rfl
theorem turnS_ok {n : Int} (h : 0 ≤ n ∧ n ≤ 5) : 0 ≤ turnS n ∧ turnS n ≤ 5 := by
  rcases six n h with rfl | rfl | rfl | rfl | rfl | rfl <;> decide

def bytesV (l : List UInt8) : List Value := l.map fun b => Value.int .u8 (b.toNat : Int)
theorem info_u8 : (Try.prog.info? 5).map (fun i => (i.zero, i.size, i.bytes)) = some (some (.int .u8 0), 1, 1) := by kernel_rfl

theorem convert_row {w : World} {base g n c : Nat} {l : List UInt8} (h : w.ownsRow base 5 1 (.slice (some ⟨g, 0, none⟩) n c) n (bytesV l)) :
    (convert 22 9 (.slice (some ⟨g, 0, none⟩) n c)).run Try.prog w = .ok (.string ⟨l.toArray⟩) w := by
  have hl : l.length = n := by have := h.1; simpa [bytesV] using this
  subst hl
  refine run_convert_bytes_back w 22 9 5 ⟨g, 0, none⟩ c l Try.underlying22 Try.underlying5 Try.underlying9 fun j hj => ?_
  have h1 := h.cellAt j (by omega)
  have e : (⟨g, 0, none⟩ : Addr).add j = ⟨g, j, none⟩ := by unfold Addr.add; split <;> simp_all
  rw [e, h1]
  simp [bytesV, List.getElem?_eq_getElem hj]

theorem impl_TurnWord_no (s : ByteArray) (w : World) (hs : s.size ≤ 1048576) (h : ¬ IsW s) :
    Calls Try.prog 15 #[.string s] w (TupPost (.tuple #[.string ⟨#[]⟩, .int .i64 1]) w) := by
  have H := Lib.hid h
  clear h
  go_enter Try.func15, Try.ntmps15
  go_wp2_with (go_at_call 31; refine (impl_read_no _ _ hs H.out).mono ?_; rintro e w1 ⟨rfl, hb⟩)
  go_ret2
  exact ⟨rfl, hb.alloc hb.size _⟩

theorem symsV_at {w : World} {base g n c : Nat} {l : List UInt8} (h : w.ownsRow base 58 1 (.slice (some ⟨g, 0, none⟩) n c) n (symsV (symL l))) (k : Nat) (b : UInt8) (hb : l[k]? = some b) (hk : k < n) :
    w.cell? ⟨g, k, none⟩ = some (.int .u8 (symNo b.toNat)) := by
  rw [h.cellAt k (by omega)]
  simp [symsV, symL, hb]

set_option maxHeartbeats 1600000 in
set_option maxRecDepth 100000 in
theorem impl_TurnWord_yes (s : ByteArray) (w : World) (h : IsW s) :
    Calls Try.prog 15 #[.string s] w (TupPost (.tuple #[.string ⟨((s.data.toList.map turnB).reverse).toArray⟩, .int .i64 0]) w) := by
  have hp := fun w => impl_read_yes s w h.1 h.2
  have h60 := h.1
  have hall := h.2
  obtain ⟨l, hl⟩ : ∃ l, l = s.data.toList := ⟨_, rfl⟩
  have hlen : l.length = s.size := by rw [hl]; simp
  rw [← hl] at hp hall ⊢
  have Hp := Lib.hid hp
  have Hl := Lib.hid hl
  have Hlen := Lib.hid hlen
  have Hall := Lib.hid hall
  clear h hp hl hlen hall
  go_enter Try.func15, Try.ntmps15
  go_wp2_with (go_at_call 31; refine (Hp.out _).mono ?_; rintro e w1 ⟨M, rfl, hsy, _, hb⟩)
  have hsy2 := hsy.alloc (.cells #[.slice (some ⟨w.heap.size + 1 + 1, 0, none⟩) s.size s.size, .slice (some ⟨M, 0, none⟩) s.size s.size] 50)
  have hb2 := hb.alloc hb.size (.cells #[.slice (some ⟨w.heap.size + 1 + 1, 0, none⟩) s.size s.size, .slice (some ⟨M, 0, none⟩) s.size s.size] 50)
  clear hsy hb
  go_loop [6, 19] (fun v i => ∃ (k : Nat) (t : ByteArray), k ≤ s.size ∧ i = .int .i64 k ∧ v = .string t ∧ t.size ≤ k ∧ Hid (t.data.toList = ((l.take k).map turnB).reverse)) (fun _ i => s.size - (intOf i).toNat)
  case atStart => exact ⟨0, ⟨#[]⟩, Nat.zero_le _, rfl, rfl, Nat.le_refl _, rfl⟩
  case round =>
    obtain ⟨k, t, hk, rfl, rfl, htk, ht⟩ := hrel
    by_cases hlt : k < s.size
    · obtain ⟨b, hlb⟩ : ∃ b, l[k]? = some b := ⟨_, List.getElem?_eq_getElem (by rw [Hlen.out]; exact hlt)⟩
      have hx : 0 ≤ symNo (b.toNat : Int) ∧ symNo (b.toNat : Int) ≤ 5 := ⟨Hall.out _ (List.mem_of_getElem? hlb), symNo_le _⟩
      have hc := symsV_at hsy2 k b hlb hlt
      have Hlb := Lib.hid hlb
      clear hlb
      have ht60 : t.size ≤ 60 := by omega
      go_wp2_with (first
        | (go_at_call 36; refine (impl_turned _ _ hx).mono ?_; rintro e w' ⟨rfl, rfl⟩)
        | (go_at_call 37; refine (impl_text _ _ (turnS_ok hx)).mono ?_; rintro e w' ⟨rfl, rfl⟩))
      go_round
      case rel =>
        refine ⟨k + 1, ⟨#[byteOf (turnS (symNo b.toNat))]⟩ ++ t, by omega, by go_num, rfl, ?_, ?_⟩
        · rw [ByteArray.size_append]
          have : (ByteArray.mk #[byteOf (turnS (symNo b.toNat))]).size = 1 := rfl
          omega
        · show _ = _
          rw [List.take_add_one, Hlb.out, ByteArray.data_append, Array.toList_append, ht.out]
          simp [turnB]
      case measure => simp [intOf]; omega
    · have e : k = s.size := by omega
      subst e
      have e2 : t = ⟨((l.map turnB).reverse).toArray⟩ := by
        have h1 := ht.out
        rw [List.take_of_length_le (by rw [Hlen.out]; exact Nat.le_refl _)] at h1
        rw [← h1]
      subst e2
      clear ht htk
      go_wp2
      go_ret2
      exact ⟨rfl, hb2⟩

end Go.Proofs.Ytnclhgaikglbgaa
