/- What the known rewriters are made of. -/
import Derived.Test.YtmkamodmnplclaaOpts
import Derived.Test.YtmkamodmnplclaaOneSym
import Derived.Test.YtmkamodmnplclaaShape
import Derived.Test.YtmkamodmnplclaaBox5
import Derived.Test.YtmkamodmnplclaaPlRS
import Derived.Test.YtmkamodmnplclaaWithR
namespace Go.Proofs.Ytmkamodmnplclaa
open Go.RowKit
set_option linter.unusedVariables false

/-- A rewriter of one state. -/
def lit1 (m : Int) (p0 p1 : OpT) (r0 r1 : List OmT) (i0 i1 : OmT) : Rw := { stack := m, start := 0, call := [[p0, p1]], ret := [[r0, r1]], inner := [[i0, i1]] }
/-- One of two states, whose calls and returns stay as they are. -/
def lit2 (i0 i1 j0 j1 : OmT) : Rw := { stack := 1, start := 0, call := (plainRw 2 1).call, ret := (plainRw 2 1).ret, inner := [[i0, i1], [j0, j1]] }
theorem lit1_bd {m : Int} {p0 p1 : OpT} {r0 r1 : List OmT} {i0 i1 : OmT} (h0 : r0.length ≤ 10) (h1 : r1.length ≤ 10) : BdRw (lit1 m p0 p1 r0 r1 i0 i1) := by
  refine ⟨?_, ?_, ?_, ?_⟩ <;> simp [lit1, Bd1, Bd2, Bd3, szRw, szL, lenOp, lenOm] <;> omega
theorem lit2_bd {i0 i1 j0 j1 : OmT} : BdRw (lit2 i0 i1 j0 j1) := by
  have h := plainRw_bd (n := 2) (m := 1) (by omega) (by omega)
  refine ⟨h.call, h.ret, ?_, ?_⟩ <;> simp [lit2, plainRw, plCall, plRet, plInner, Bd1, Bd2, szRw, szL, lenOp, lenOm, List.range_succ]
theorem nil_bdR : BdRw ⟨0, 0, [], [], []⟩ := by refine ⟨?_, ?_, ?_, ?_⟩ <;> simp [Bd1, Bd2, Bd3, szRw, szL]
theorem OptC.later {w w' : World} {f : FuncId} {fc : Array Value} {c d : Rw} (h : OptC w f fc c d) (hb : Below w.heap.size w w') : OptC w' f fc c d :=
  fun W base b b1 b2 b3 hbase hW hA => h W base b b1 b2 b3 (Nat.le_trans hb.size hbase) (hb.trans (hW.mono hb.size)) hA
/-- A rewriter's value, laid into a new box. -/
theorem RwAt.of_value {base : Nat} {w : World} {c : Rw} {bs : List Nat} {A0 A1 A2 : Option Addr} {n0 k0 n1 k1 n2 k2 : Nat} (h : RwE base w (.agg #[.int .i64 c.stack, .int .i64 c.start, .slice A0 n0 k0, .slice A1 n1 k1, .slice A2 n2 k2]) c bs) (hb : base ≤ w.heap.size) :
    ∃ b1 b2 b3, RwAt base (w.alloc (.cells #[.int .i64 c.stack, .int .i64 c.start, .slice A0 n0 k0, .slice A1 n1 k1, .slice A2 n2 k2] 36)) w.heap.size c b1 b2 b3 := by
  have hlt := (rewriter_ok _).lt h
  obtain ⟨v0, v1, v2, b1, b2, b3, e, f0, f1, f2, rfl, hn⟩ := h
  simp only [Value.agg.injEq, Array.mk.injEq, List.cons.injEq, and_true, true_and] at e
  obtain ⟨rfl, rfl, rfl⟩ := e
  have hB := (Below.refl w.heap.size w).alloc (Nat.le_refl _) (.cells #[.int .i64 c.stack, .int .i64 c.start, .slice A0 n0 k0, .slice A1 n1 k1, .slice A2 n2 k2] 36)
  have h1 := List.nodup_append.1 hn
  have h2 := List.nodup_append.1 h1.2.1
  refine ⟨b1, b2, b3, ⟨⟨_, _, _, Bx.new _ _ _, (op2_ok _).later f0 hB, (om3_ok _).later f1 hB, (om2_ok _).later f2 hB⟩, fun k hk hk2 => h1.2.2 k hk k (List.mem_append_left _ hk2) rfl, fun k hk hk2 => h1.2.2 k hk k (List.mem_append_right _ hk2) rfl, fun k hk hk2 => h2.2.2 k hk k hk2 rfl, ?_, ?_, ?_, hb⟩⟩
  · intro hk; have := (hlt _ (List.mem_append_left _ hk)).2; omega
  · intro hk; have := (hlt _ (List.mem_append_right _ (List.mem_append_left _ hk))).2; omega
  · intro hk; have := (hlt _ (List.mem_append_right _ (List.mem_append_right _ hk))).2; omega
theorem toList_neK {x y : ByteArray} (h : ¬ x = y) : (x.toList == y.toList) = false := by
  rw [ByteArray.toList_eq, ByteArray.toList_eq]
  refine beq_eq_false_iff_ne.2 fun e => h ?_
  obtain ⟨⟨l⟩⟩ := x
  obtain ⟨⟨m⟩⟩ := y
  simp at e
  rw [e]
theorem text_ne {t : ByteArray} (q : UInt8) (h : ¬ t = ⟨#[q]⟩) : (t.toList == [q]) = false := by
  have e : [q] = (⟨#[q]⟩ : ByteArray).toList := by rw [ByteArray.toList_eq]
  rw [e]
  exact toList_neK h
theorem cf_writing (args : Array Value) (w : World) : (callFunc 105 args).run Try.prog w = .ok (.enter 105 args) w :=
  entersO (fn := Try.f105) (by kernel_rfl) (by kernel_rfl) rfl args w
theorem mk_writing (s : Int) (out : ByteArray) (w : World) : Calls Try.prog 60 #[.int .u8 s, .string out] w fun e w' => e = .returned (.func (.func 105) #[] #[.pointer (some ⟨w.heap.size, 0, none⟩), .pointer (some ⟨w.heap.size + 1, 0, none⟩)]) ∧ Below w.heap.size w w' ∧ (w'.cell? ⟨w.heap.size, 0, none⟩ = some (.int .u8 s) ∧ w'.cell? ⟨w.heap.size + 1, 0, none⟩ = some (.string out)) := by
  go_enter Try.func60, Try.ntmps60
  go_wp2
  go_ret
  have t := (Bx.new (w.alloc (.cells #[.int .u8 s] 83)) 9 #[.string out]).cell 0 _ rfl
  rw [World.size_alloc] at t
  exact ⟨rfl, ((Below.refl _ _).alloc (Nat.le_refl _) _).alloc (by simp) _, ((Bx.new w 83 #[.int .u8 s]).alloc _).cell 0 _ rfl, t⟩
theorem cf_putting (args : Array Value) (w : World) : (callFunc 101 args).run Try.prog w = .ok (.enter 101 args) w :=
  entersO (fn := Try.f101) (by kernel_rfl) (by kernel_rfl) rfl args w
theorem mk_putting (s : Int) (mark : Int) (w : World) : Calls Try.prog 57 #[.int .u8 s, .int .i64 mark] w fun e w' => e = .returned (.func (.func 101) #[] #[.pointer (some ⟨w.heap.size + 1, 0, none⟩), .pointer (some ⟨w.heap.size, 0, none⟩)]) ∧ Below w.heap.size w w' ∧ (w'.cell? ⟨w.heap.size, 0, none⟩ = some (.int .u8 s) ∧ w'.cell? ⟨w.heap.size + 1, 0, none⟩ = some (.int .i64 mark)) := by
  go_enter Try.func57, Try.ntmps57
  go_wp2
  go_ret
  have t := (Bx.new (w.alloc (.cells #[.int .u8 s] 83)) 2 #[.int .i64 mark]).cell 0 _ rfl
  rw [World.size_alloc] at t
  exact ⟨rfl, ((Below.refl _ _).alloc (Nat.le_refl _) _).alloc (by simp) _, ((Bx.new w 83 #[.int .u8 s]).alloc _).cell 0 _ rfl, t⟩
theorem cf_writingBack (args : Array Value) (w : World) : (callFunc 100 args).run Try.prog w = .ok (.enter 100 args) w :=
  entersO (fn := Try.f100) (by kernel_rfl) (by kernel_rfl) rfl args w
theorem mk_writingBack (mark : Int) (out : ByteArray) (w : World) : Calls Try.prog 55 #[.int .i64 mark, .string out] w fun e w' => e = .returned (.func (.func 100) #[] #[.pointer (some ⟨w.heap.size + 1, 0, none⟩), .pointer (some ⟨w.heap.size, 0, none⟩)]) ∧ Below w.heap.size w w' ∧ (w'.cell? ⟨w.heap.size, 0, none⟩ = some (.int .i64 mark) ∧ w'.cell? ⟨w.heap.size + 1, 0, none⟩ = some (.string out)) := by
  go_enter Try.func55, Try.ntmps55
  go_wp2
  go_ret
  have t := (Bx.new (w.alloc (.cells #[.int .i64 mark] 2)) 9 #[.string out]).cell 0 _ rfl
  rw [World.size_alloc] at t
  exact ⟨rfl, ((Below.refl _ _).alloc (Nat.le_refl _) _).alloc (by simp) _, ((Bx.new w 2 #[.int .i64 mark]).alloc _).cell 0 _ rfl, t⟩
theorem cf_moving (args : Array Value) (w : World) : (callFunc 108 args).run Try.prog w = .ok (.enter 108 args) w :=
  entersO (fn := Try.f108) (by kernel_rfl) (by kernel_rfl) rfl args w
theorem mk_moving (st s tz : Int) (out : ByteArray) (w : World) : Calls Try.prog 61 #[.int .i64 st, .int .u8 s, .agg #[.int .i64 tz, .string out]] w fun e w' => e = .returned (.func (.func 108) #[] #[.pointer (some ⟨w.heap.size + 1 + 1, 0, none⟩), .pointer (some ⟨w.heap.size, 0, none⟩), .pointer (some ⟨w.heap.size + 1, 0, none⟩)]) ∧ Below w.heap.size w w' ∧
    (w'.cell? ⟨w.heap.size, 0, none⟩ = some (.int .i64 st) ∧ w'.cell? ⟨w.heap.size + 1, 0, none⟩ = some (.int .u8 s) ∧ Bx w' (w.heap.size + 1 + 1) 78 #[.int .i64 tz, .string out]) := by
  go_enter Try.func61, Try.ntmps61
  go_wp2
  go_ret
  have t := ((Bx.new (w.alloc (.cells #[.int .i64 st] 2)) 83 #[.int .u8 s]).alloc (.cells #[.int .i64 tz, .string out] 78)).cell 0 _ rfl
  have t2 := Bx.new ((w.alloc (.cells #[.int .i64 st] 2)).alloc (.cells #[.int .u8 s] 83)) 78 #[.int .i64 tz, .string out]
  rw [World.size_alloc] at t
  rw [World.size_alloc, World.size_alloc] at t2
  exact ⟨rfl, (((Below.refl _ _).alloc (Nat.le_refl _) _).alloc (by simp) _).alloc (by simp; omega) _, (((Bx.new w 2 #[.int .i64 st]).alloc _).alloc _).cell 0 _ rfl, t, t2⟩
set_option maxHeartbeats 6400000 in
set_option maxRecDepth 100000 in
theorem sos_one (b : UInt8) (shape : Int) (w : World) (h : 0 ≤ symNo b.toNat) : Calls Try.prog 59 #[.string ⟨#[b]⟩, .int .u8 shape] w (TupPost (.tuple #[.int .u8 (symNo b.toNat), .bool (shapeS (symNo b.toNat) == shape)]) w) := by
  have Hp := Lib.hid fun W => one_yes b W h
  have h5 : symNo b.toNat ≤ 5 := by unfold symNo; (repeat' split) <;> omega
  have Hs := Lib.hid fun W => impl_shape (symNo b.toNat) W ⟨h, h5⟩
  obtain ⟨t, ht⟩ : ∃ t, t = (⟨#[b]⟩ : ByteArray) := ⟨_, rfl⟩
  obtain ⟨k, hk⟩ : ∃ k, k = symNo b.toNat := ⟨_, rfl⟩
  rw [← hk] at Hp Hs ⊢
  rw [← ht] at Hp ⊢
  clear ht hk h h5
  go_enter Try.func59, Try.ntmps59
  go_wp2_with fail
  refine (Hp.out _).mono ?_
  rintro e w1 ⟨rfl, hb⟩
  have HB := Lib.hid hb
  clear hb
  go_wp2_with fail
  refine (Hs.out _).mono ?_
  rintro e w1 ⟨rfl, rfl⟩
  go_wp2
  go_ret2
  exact ⟨rfl, HB.out⟩
set_option maxHeartbeats 6400000 in
set_option maxRecDepth 100000 in
theorem sos_no (t : ByteArray) (shape : Int) (w : World) (hs : t.size ≤ 1048576) (h : ¬ OneW t) : Calls Try.prog 59 #[.string t, .int .u8 shape] w (TupPost (.tuple #[.int .u8 0, .bool false]) w) := by
  have Hp := Lib.hid fun W => one_no t W hs h
  clear h
  go_enter Try.func59, Try.ntmps59
  go_wp2_with fail
  refine (Hp.out _).mono ?_
  rintro e w1 ⟨rfl, hb⟩
  have HB := Lib.hid hb
  clear hb
  go_wp2
  go_ret2
  exact ⟨rfl, HB.out⟩
/-- What the function answers for a text that is no symbol of the shape. -/
theorem sos_other (t : ByteArray) (shape : Int) (hs : t.size ≤ 1048576) (h : ∀ b : UInt8, t = ⟨#[b]⟩ → 0 ≤ symNo b.toNat → (shapeS (symNo b.toNat) == shape) = false) : ∃ x : Int, ∀ w, Calls Try.prog 59 #[.string t, .int .u8 shape] w (TupPost (.tuple #[.int .u8 x, .bool false]) w) := by
  by_cases ho : OneW t
  · obtain ⟨b, rfl, hb⟩ := ho
    have h2 := h b rfl hb
    exact ⟨symNo b.toNat, fun w => by have := sos_one b shape w hb; rwa [h2] at this⟩
  · exact ⟨0, fun w => sos_no t shape w hs ho⟩
theorem letter_a (w : World) : Calls Try.prog 58 #[.string ⟨#[97]⟩] w fun e w' => e = .returned (.int .i64 0) ∧ w = w' := by
  go_enter Try.func58, Try.ntmps58
  go_wp2
  go_ret
  exact ⟨rfl, rfl⟩
theorem letter_b (w : World) : Calls Try.prog 58 #[.string ⟨#[98]⟩] w fun e w' => e = .returned (.int .i64 1) ∧ w = w' := by
  go_enter Try.func58, Try.ntmps58
  go_wp2
  go_ret
  exact ⟨rfl, rfl⟩
theorem letter_no (t : ByteArray) (w : World) (h0 : ¬ t = ⟨#[97]⟩) (h1 : ¬ t = ⟨#[98]⟩) : Calls Try.prog 58 #[.string t] w fun e w' => e = .returned (.int .i64 (-1)) ∧ w = w' := by
  have e0 := text_ne 97 h0
  have e1 := text_ne 98 h1
  clear h0 h1
  go_enter Try.func58, Try.ntmps58
  go_wp2
  go_ret
  exact ⟨rfl, rfl⟩
theorem sym_shape4 (b : UInt8) (hb : 0 ≤ symNo b.toNat) (h0 : ¬ b = 97) (h1 : ¬ b = 98) : (shapeS (symNo b.toNat) == 4) = false := by
  have e : ∀ q : UInt8, (b.toNat : Int) = (q.toNat : Int) → b = q := fun q h => UInt8.toNat_inj.1 (by omega)
  rcases sym_cases (b.toNat : Int) with h | h | h | h | h | h | h
  · rw [h]; rfl
  · rw [h]; rfl
  · rw [h]; rfl
  · rw [h]; rfl
  · exact absurd (e 97 h) h0
  · exact absurd (e 98 h) h1
  · rw [symNo_none h] at hb; omega
theorem sym_shape0 (b : UInt8) (hb : 0 ≤ symNo b.toNat) (h0 : ¬ b = 40) (h1 : ¬ b = 91) : (shapeS (symNo b.toNat) == 0) = false := by
  have e : ∀ q : UInt8, (b.toNat : Int) = (q.toNat : Int) → b = q := fun q h => UInt8.toNat_inj.1 (by omega)
  rcases sym_cases (b.toNat : Int) with h | h | h | h | h | h | h
  · exact absurd (e 40 h) h0
  · exact absurd (e 91 h) h1
  · rw [h]; rfl
  · rw [h]; rfl
  · rw [h]; rfl
  · rw [h]; rfl
  · rw [symNo_none h] at hb; omega
end Go.Proofs.Ytmkamodmnplclaa
