/- What draws choices from bytes: l00From and the methods next, pick, one of its answer. -/
import Derived.Test.YtnclhgaikglbgaaSym
import Derived.Test.YtnclhgaikglbgaaMem
import Derived.BigQuiet
import Derived.Deep.QuietTactic
import Derived.Lib.Hide
namespace Go.Proofs.Ytnclhgaikglbgaa
open Go.RowKit

/-- Bytes that lie below the block B. -/
structure CodeAt (B : Nat) (W : World) (A : Option Addr) (n : Nat) : Prop where
  le : n ≤ 3000
  byte : ∀ j, j < n → ∃ (a : Addr) (x : Int), A = some a ∧ a.block < B ∧ W.cell? (a.add j) = some (.int .u8 x) ∧ 0 ≤ x ∧ x ≤ 255
/-- The source at the block p. -/
structure SrcAt (W : World) (p : Nat) (A : Option Addr) (n c k : Nat) : Prop where
  c0 : W.cell? ⟨p, 0, none⟩ = some (.slice A n c)
  c1 : W.cell? ⟨p, 1, none⟩ = some (.int .i64 (k : Int))
  c2 : ∃ x : Int, W.cell? ⟨p, 2, none⟩ = some (.int .u64 x) ∧ 0 ≤ x ∧ x < 18446744073709551616
  f1 : W.frozen? ⟨p, 1, none⟩ = false
  f2 : W.frozen? ⟨p, 2, none⟩ = false

theorem src_step {w : World} {p : Nat} {A : Option Addr} {n c k : Nat} (hs : SrcAt w p A n c k) (q : Nat) (x : Int) (hx : 0 ≤ x ∧ x < 18446744073709551616) :
    SrcAt (((w.drewN q).setCell ⟨p, 1, none⟩ (.int .i64 ((k : Int) + 1))).setCell ⟨p, 2, none⟩ (.int .u64 x)) p A n c (k + 1) ∧
    w.grownBy (((w.drewN q).setCell ⟨p, 1, none⟩ (.int .i64 ((k : Int) + 1))).setCell ⟨p, 2, none⟩ (.int .u64 x)) (some p) := by
  obtain ⟨h0, h1, ⟨y, h2, _, _⟩, f1, f2⟩ := hs
  have d0 : (w.drewN q).cell? ⟨p, 0, none⟩ = _ := h0
  have d1 : (w.drewN q).cell? ⟨p, 1, none⟩ = _ := h1
  have d2 : (w.drewN q).cell? ⟨p, 2, none⟩ = _ := h2
  have g1 : (w.drewN q).frozen? ⟨p, 1, none⟩ = _ := f1
  have g2 : (w.drewN q).frozen? ⟨p, 2, none⟩ = _ := f2
  have e0 := (World.cell?_setCell_other (w.drewN q) ⟨p, 1, none⟩ ⟨p, 0, none⟩ (.int .i64 ((k : Int) + 1)) (by simp)).trans d0
  have e1 := World.cell?_setCell_same' (w.drewN q) ⟨p, 1, none⟩ (.int .i64 ((k : Int) + 1)) (by rw [d1]; rfl)
  have e2 := (World.cell?_setCell_other (w.drewN q) ⟨p, 1, none⟩ ⟨p, 2, none⟩ (.int .i64 ((k : Int) + 1)) (by simp)).trans d2
  refine ⟨⟨?_, ?_, ⟨x, ?_, hx⟩, ?_, ?_⟩, ?_⟩
  · exact (World.cell?_setCell_other _ _ _ _ (by simp)).trans e0
  · exact (World.cell?_setCell_other _ _ _ _ (by simp)).trans e1
  · exact World.cell?_setCell_same' _ _ _ (by rw [e2]; rfl)
  · rw [World.frozen?_setCell, World.frozen?_setCell]; exact g1
  · rw [World.frozen?_setCell, World.frozen?_setCell]; exact g2
  · refine ⟨rfl, rfl, rfl, by simp [World.setCell, World.drewN], fun b _ hb => ?_⟩
    have hb' : b ≠ p := fun e => hb (by rw [e])
    rw [Below.heap_setCell _ _ _ _ hb', Below.heap_setCell _ _ _ _ hb']
    rfl
theorem wrap_in (n : Int) : 0 ≤ IntKind.u64.wrap n ∧ IntKind.u64.wrap n < 18446744073709551616 := by rw [IntKind.wrap_u64]; omega
theorem low_byte (x : Int) (h0 : 0 ≤ x) (h1 : x < 18446744073709551616) : 0 ≤ wrap64 (bits BinOp.and IntKind.u64 (x / 1099511627776) 255) ∧ wrap64 (bits BinOp.and IntKind.u64 (x / 1099511627776) 255) ≤ 255 := by
  obtain ⟨m, hm⟩ : ∃ m : Nat, x / 1099511627776 = (m : Int) := Int.eq_ofNat_of_zero_le (by omega)
  have h := bits_and_u64_nat m 255 (by omega) (by omega)
  have hle : m &&& 255 ≤ 255 := Nat.and_le_right
  rw [hm, show (255 : Int) = ((255 : Nat) : Int) from rfl, h]
  unfold wrap64
  omega
theorem SrcAt.drewN {w : World} {p : Nat} {A : Option Addr} {n c k : Nat} (h : SrcAt w p A n c k) (q : Nat) : SrcAt (w.drewN q) p A n c k := ⟨h.c0, h.c1, h.c2, h.f1, h.f2⟩

set_option maxHeartbeats 1600000 in
set_option maxRecDepth 100000 in
theorem draw_next (p : Nat) (A : Option Addr) (n c k : Nat) (w : World) (hc : CodeAt p w A n) (hs : SrcAt w p A n c k) (hk : k ≤ 100000) :
    Calls Try.prog 63 #[.pointer (some ⟨p, 0, none⟩)] w fun e w' => ∃ v : Int, 0 ≤ v ∧ v ≤ 255 ∧ e = .returned (.int .i64 v) ∧ SrcAt w' p A n c (k + 1) ∧ w.grownBy w' (some p) := by
  have st := fun q n => src_step hs q _ (wrap_in n)
  have St := Lib.hid st
  clear st
  obtain ⟨h0, h1, ⟨x, h2, _, _⟩, f1, f2⟩ := hs
  have hn := hc.le
  by_cases hlt : k < n
  · obtain ⟨a, y, rfl, hab, hy, hy0, hy1⟩ := hc.byte k hlt
    clear hc
    go_enter Try.func63, Try.ntmps63
    go_wp2
    go_quiet (fail)
    go_wp2
    go_quiet (fail)
    go_wp2
    generalize hW2 : World.setCell (World.setCell (World.drewN w _) _ _) _ _ = W2
    obtain ⟨hS, hG⟩ : SrcAt W2 p (some a) n c (k + 1) ∧ w.grownBy W2 (some p) := by rw [← hW2]; exact St.out _ _
    clear hW2
    have hS' := Lib.hid hS
    obtain ⟨h0', h1', ⟨x', h2', hx0, hx1⟩, _, _⟩ := hS
    rw [show ((k + 1 : Nat) : Int) = (k : Int) + 1 from by omega] at h1'
    go_wp2
    go_quiet (fail)
    go_wp2
    go_ret
    exact ⟨y, hy0, hy1, rfl, hS'.out.drewN _, ⟨hG.os, hG.tape, hG.output, hG.size, hG.block⟩⟩
  · have hge : n ≤ k := by omega
    clear hc
    go_enter Try.func63, Try.ntmps63
    go_wp2
    go_quiet (fail)
    go_wp2
    generalize hW2 : World.setCell (World.setCell (World.drewN w _) _ _) _ _ = W2
    obtain ⟨hS, hG⟩ : SrcAt W2 p A n c (k + 1) ∧ w.grownBy W2 (some p) := by rw [← hW2]; exact St.out _ _
    clear hW2
    have hS' := Lib.hid hS
    obtain ⟨h0', h1', ⟨x', h2', hx0, hx1⟩, _, _⟩ := hS
    rw [show ((k + 1 : Nat) : Int) = (k : Int) + 1 from by omega] at h1'
    go_wp2
    go_quiet (fail)
    go_wp2
    go_ret
    obtain ⟨lo, hi⟩ := low_byte x' hx0 hx1
    exact ⟨_, lo, hi, rfl, hS'.out.drewN _, ⟨hG.os, hG.tape, hG.output, hG.size, hG.block⟩⟩

theorem grown_two {a b c : World} {p : Nat} (h : a.grownBy b (some p)) (k : b.grownBy c (some p)) : a.grownBy c (some p) :=
  ⟨k.os.trans h.os, k.tape.trans h.tape, k.output.trans h.output, Nat.le_trans h.size k.size, fun j hj hr => (k.block j (by have := h.size; omega) hr).trans (h.block j hj hr)⟩
theorem CodeAt.grown {B p : Nat} {W W' : World} {A : Option Addr} {n : Nat} (h : CodeAt B W A n) (hB : B ≤ p) (hB' : B ≤ W.heap.size) (hg : W.grownBy W' (some p)) : CodeAt B W' A n :=
  ⟨h.le, fun j hj => by
    obtain ⟨a, x, h1, h2, h3, h4⟩ := h.byte j hj
    have e : (a.add j).block = a.block := by unfold Addr.add; split <;> rfl
    refine ⟨a, x, h1, h2, ?_, h4⟩
    rw [World.cell?_of_block (hg.block _ (by omega) (by simp; omega)), h3]⟩

/-- What a choice leaves: a number below m, and the source further on. -/
def PickPost (p : Nat) (A : Option Addr) (n c k : Nat) (m : Int) (w : World) (e : Ending) (w' : World) : Prop :=
  ∃ v : Int, 0 ≤ v ∧ v < m ∧ e = .returned (.int .i64 v) ∧ SrcAt w' p A n c (k + 1) ∧ w.grownBy w' (some p)
theorem draw_pick (p : Nat) (A : Option Addr) (n c k : Nat) (m : Int) (w : World) (hc : CodeAt p w A n) (hs : SrcAt w p A n c k) (hk : k ≤ 100000) (hm : 2 ≤ m) (hm2 : m ≤ 200) :
    Calls Try.prog 49 #[.pointer (some ⟨p, 0, none⟩), .int .i64 m] w (PickPost p A n c k m w) := by
  have st := draw_next p A n c k w hc hs hk
  have St := Lib.hid st
  clear st hc hs
  go_enter Try.func49, Try.ntmps49
  go_wp2_with (go_at_call 63; refine St.out.mono ?_; rintro e w1 ⟨v, h0, h1, rfl, hS, hG⟩)
  have e : v.tmod m = v % m := Int.tmod_eq_emod_of_nonneg h0
  go_ret
  exact ⟨v % m, Int.emod_nonneg _ (by omega), Int.emod_lt_of_pos _ (by omega), by simp [go_sem], hS, hG⟩
def OnePost (p : Nat) (A : Option Addr) (n c k : Nat) (w : World) (e : Ending) (w' : World) : Prop :=
  ∃ b : Bool, e = .returned (.bool b) ∧ SrcAt w' p A n c (k + 1) ∧ w.grownBy w' (some p)
theorem draw_one (p : Nat) (A : Option Addr) (n c k : Nat) (m : Int) (w : World) (hc : CodeAt p w A n) (hs : SrcAt w p A n c k) (hk : k ≤ 100000) (hm : 2 ≤ m) (hm2 : m ≤ 200) :
    Calls Try.prog 48 #[.pointer (some ⟨p, 0, none⟩), .int .i64 m] w (OnePost p A n c k w) := by
  have st := draw_pick p A n c k m w hc hs hk hm hm2
  have St := Lib.hid st
  clear st hc hs
  go_enter Try.func48, Try.ntmps48
  go_wp2_with (go_at_call 49; refine St.out.mono ?_; rintro e w1 ⟨v, h0, h1, rfl, hS, hG⟩)
  go_ret
  exact ⟨_, rfl, hS, hG⟩
theorem draw_from (A : Option Addr) (n c : Nat) (w : World) :
    Calls Try.prog 30 #[.slice A n c] w fun e w' => e = .returned (.pointer (some ⟨w.heap.size, 0, none⟩)) ∧ SrcAt w' w.heap.size A n c 0 ∧ w' = w.alloc (.cells #[.slice A n c, .int .i64 0, .int .u64 0] 73) := by
  go_enter Try.func30, Try.ntmps30
  go_wp2
  go_ret
  exact ⟨rfl, ⟨by simp [go_sem], by simp [go_sem], ⟨0, by simp [go_sem], by decide, by decide⟩, by simp [go_sem], by simp [go_sem]⟩, rfl⟩
end Go.Proofs.Ytnclhgaikglbgaa
