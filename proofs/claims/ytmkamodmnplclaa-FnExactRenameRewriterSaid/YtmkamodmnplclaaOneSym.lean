/- One symbol, read. -/
import Derived.Test.YtmkamodmnplclaaQTest
import Derived.Test.YtmkamodmnplclaaPart
namespace Go.Proofs.Ytmkamodmnplclaa
open Go.RowKit
set_option linter.unusedVariables false

def OneW (s : ByteArray) : Prop := ∃ b : UInt8, s = ⟨#[b]⟩ ∧ 0 ≤ symNo b.toNat
theorem oneW_isW {s : ByteArray} (h : OneW s) : IsW s := by
  obtain ⟨b, rfl, h⟩ := h
  refine ⟨by show 1 ≤ 60; omega, fun x hx => ?_⟩
  have : x = b := by simpa using hx
  rw [this]; exact h
theorem isW_one {s : ByteArray} (h : IsW s) (h1 : s.size = 1) : OneW s := by
  obtain ⟨b, rfl⟩ := one_byte h1
  exact ⟨b, rfl, h.2 b (by simp)⟩

set_option maxHeartbeats 1600000 in
theorem one_yes (b : UInt8) (w : World) (h : 0 ≤ symNo b.toNat) :
    Calls Try.prog 103 #[.string ⟨#[b]⟩] w (TupPost (.tuple #[.int .u8 (symNo b.toNat), .bool true]) w) := by
  have hp := fun w => impl_read_yes ⟨#[b]⟩ w (by show 1 ≤ 60; omega) (oneW_isW ⟨b, rfl, h⟩).2
  have Hp := Lib.hid hp
  clear hp
  go_enter Try.func103, Try.ntmps103
  go_wp2_with fail
  refine (Hp.out _).mono ?_
  rintro e w1 ⟨M, rfl, hsy, hps, hb⟩
  rw [show (⟨#[b]⟩ : ByteArray).size = 1 from rfl] at *
  have hc : w1.cell? ⟨w.heap.size + 1 + 1, 0, none⟩ = some (.int .u8 (symNo b.toNat)) := by
    rw [hsy.cellAt 0 (by omega)]; rfl
  have hlt := (hsy.lt _ rfl).2
  clear hsy hps
  go_wp2
  go_ret2
  exact ⟨rfl, hb.alloc hb.size _⟩
set_option maxHeartbeats 1600000 in
theorem one_no (s : ByteArray) (w : World) (hs : s.size ≤ 1048576) (h : ¬ OneW s) :
    Calls Try.prog 103 #[.string s] w (TupPost (.tuple #[.int .u8 0, .bool false]) w) := by
  by_cases hw : IsW s
  · have hp := fun w => impl_read_yes s w hw.1 hw.2
    have hn1 : s.size ≠ 1 := fun e => h (isW_one hw e)
    have h60 := hw.1
    generalize s.data.toList = l at hp
    have Hp := Lib.hid hp
    clear hp h hw hs
    have hd : decide (s.size = 1) = false := by simpa using hn1
    have hdi : ((s.size : Int) == 1) = false := by
      simp only [beq_eq_false_iff_ne]; omega
    have hdn : ((s.size : Int) != 1) = true := by simp only [bne_iff_ne]; omega
    have hin : ¬ ((s.size : Int) = 1) := by omega
    go_enter Try.func103, Try.ntmps103
    go_wp2_with fail
    refine (Hp.out _).mono ?_
    rintro e w1 ⟨M, rfl, hsy, hps, hb⟩
    clear hsy hps
    go_wp2
    go_ret2
    exact ⟨rfl, hb.alloc hb.size _⟩
  · have Hw := Lib.hid hw
    clear h hw
    go_enter Try.func103, Try.ntmps103
    go_wp2_with fail
    refine (impl_read_no _ _ hs Hw.out).mono ?_
    rintro e w1 ⟨rfl, hb⟩
    go_wp2
    go_ret2
    exact ⟨rfl, hb.alloc hb.size _⟩
end Go.Proofs.Ytmkamodmnplclaa
