/- symbolOf and readNested: a text of at most 60 symbols is read into their numbers and their partners, in new rows; any other text is refused. -/
import Derived.Test.YtcboalnpbmnfcaaMatch
import Derived.Test.YtcboalnpbmnfcaaShelf
import Derived.Defers
import Derived.Recover
import Derived.Tactics
import Derived.Tactics2
import Derived.Laws.Pointers
namespace Go.Proofs.Ytcboalnpbmnfcaa
open Go.RowKit

theorem idx_sym (b : UInt8) : Lib.indexByte [40, 91, 41, 93, 97, 98] ((b.toNat : Int).toNat.toUInt8) = symNo b.toNat := by
  have e : ((b.toNat : Int).toNat.toUInt8) = b := by simp
  rw [e]
  by_cases h0 : b = 40
  · subst h0; rfl
  by_cases h1 : b = 91
  · subst h1; rfl
  by_cases h2 : b = 41
  · subst h2; rfl
  by_cases h3 : b = 93
  · subst h3; rfl
  by_cases h4 : b = 97
  · subst h4; rfl
  by_cases h5 : b = 98
  · subst h5; rfl
  have ne (k : UInt8) (h : ¬ b = k) : ¬ ((b.toNat : Int) = k.toNat) := fun e => h (UInt8.toNat_inj.1 (by omega))
  have n0 := ne _ h0
  have n1 := ne _ h1
  have n2 := ne _ h2
  have n3 := ne _ h3
  have n4 := ne _ h4
  have n5 := ne _ h5
  have f (k : UInt8) (h : ¬ b = k) : (k == b) = false := by simpa using fun e => h e.symm
  simp only [UInt8.reduceToNat] at n0 n1 n2 n3 n4 n5
  have r : symNo b.toNat = -1 := by
    unfold symNo
    rw [if_neg (by omega), if_neg (by omega), if_neg (by omega), if_neg (by omega), if_neg (by omega), if_neg (by omega)]
  rw [r]
  simp only [Lib.indexByte, f _ h0, f _ h1, f _ h2, f _ h3, f _ h4, f _ h5]
  rfl

theorem symNo_le (n : Int) : symNo n ≤ 5 := by unfold symNo; (repeat' split) <;> omega

theorem index_sym (b : UInt8) (w : World) :
    Calls Try.prog 157 #[.string ⟨#[40, 91, 41, 93, 97, 98]⟩, .int .u8 b.toNat] w fun e w' => e = .returned (.int .i64 (symNo b.toNat)) ∧ w = w' := by
  refine (Try.strings_IndexByte _ _ _).mono ?_
  rintro e w' ⟨rfl, rfl⟩
  exact ⟨by rw [show (ByteArray.mk #[40, 91, 41, 93, 97, 98]).data.toList = [40, 91, 41, 93, 97, 98] from rfl, idx_sym], rfl⟩

theorem impl_symbolOf (b : UInt8) (w : World) (h : 0 ≤ symNo b.toNat) :
    Calls Try.prog 124 #[.int .u8 b.toNat] w fun e w' => e = .returned (.int .u8 (symNo b.toNat)) ∧ w = w' := by
  have hc := index_sym b w
  have h5 := symNo_le b.toNat
  generalize symNo (b.toNat : Int) = m at h hc h5 ⊢
  have H := Lib.hid hc
  clear hc
  go_enter Try.func124, Try.ntmps124
  go_wp2_with (go_at_call 157; refine H.out.mono ?_; rintro e w' ⟨rfl, rfl⟩)
  go_ret
  exact ⟨by simp, rfl⟩

theorem impl_symbolOf_none (b : UInt8) (w : World) (h : symNo b.toNat < 0) :
    Calls Try.prog 124 #[.int .u8 b.toNat] w fun e w' => e = .panicked [{ v := .iface 198 (.int .u8 b.toNat), recovered := false }] ∧ w = w' := by
  have hc := index_sym b w
  generalize symNo (b.toNat : Int) = m at h hc ⊢
  have H := Lib.hid hc
  clear hc
  go_enter Try.func124, Try.ntmps124
  go_wp2_with (go_at_call 157; refine H.out.mono ?_; rintro e w' ⟨rfl, rfl⟩)
  exact ⟨rfl, rfl, rfl⟩

/-! The deferred closure: entered by a frame that panics; by one that returns. -/
theorem closure_panicking (B C : Nat) (x0 x1 x2 : Value) (u : TypeId) (pv : Value) (older : List PanicEntry) (w : World) (hne : B ≠ C)
    (hc0 : w.cell? ⟨B, 0, none⟩ = some x0) (hc1 : w.cell? ⟨B, 1, none⟩ = some x1) (hc2 : w.cell? ⟨C, 0, none⟩ = some x2)
    (hp0 : w.frozen? ⟨B, 0, none⟩ = false) (hp1 : w.frozen? ⟨B, 1, none⟩ = false) (hq : w.frozen? ⟨C, 0, none⟩ = false) :
    CallsD Try.prog 123 #[.pointer (some ⟨B, 0, none⟩), .pointer (some ⟨C, 0, none⟩)] (.panicking ({ v := .iface u pv, recovered := false } :: older)) w fun e u' w' =>
      e = .returned (.tuple #[]) ∧ u' = .panicking ({ v := .iface u pv, recovered := true } :: older) ∧
        w' = ((w.setCell ⟨B, 0, none⟩ (.slice none 0 0)).setCell ⟨B, 1, none⟩ (.slice none 0 0)).setCell ⟨C, 0, none⟩ (.bool false) := by
  refine callsD_of_wpS Try.func123 rfl fun c₀ cs hu => ?_
  apply wpS_seq
  apply wpS_region
  simp [wpOpsS, go_sem, recoverD, hu, Try.ntmps123, Exit.thenS]
  refine wpS_cond (t := true) (by simp [Act.eval, Array.replicate]) ?_
  simp only [if_true]
  apply wpS_region
  simp [wpOpsS, go_sem, hc0, hc1, hc2, hp0, hp1, hq, bodyPostS, results, Try.results123]

theorem closure_idle (p q : Addr) (w : World) :
    CallsD Try.prog 123 #[.pointer (some p), .pointer (some q)] .returning w fun e u' w' => e = .returned (.tuple #[]) ∧ u' = .returning ∧ w = w' := by
  refine callsD_of_wpS Try.func123 rfl fun c₀ cs hu => ?_
  apply wpS_seq
  apply wpS_region
  simp [wpOpsS, go_sem, recoverD, hu, Try.ntmps123, Exit.thenS]
  refine wpS_cond (t := false) (by simp [Act.eval, Array.replicate]) ?_
  simp only [Bool.false_eq_true, if_false]
  refine wpS_of_wp (wp_skip ?_)
  cases c₀
  simp_all [bodyPostS, results, Try.results123]
end Go.Proofs.Ytcboalnpbmnfcaa
