/- withStates' closures, of the program. -/
import Derived.Test.YtdehehdcjfaefabMapped
import Derived.Test.YtdehehdcjfaefabFree
import Derived.Test.YtdehehdcjfaefabChk
import Derived.BigQuiet
import Derived.Deep.QuietTactic
import Derived.Deep.RegionWith
namespace Go.Proofs.Ytdehehdcjfaefab
open Go.RowKit
set_option linter.unusedVariables false

/-- What the world holds that the closures read: the checker's box, the new numbers, and the closures that others call. -/
structure WsAt (w : World) (c : Ck) (bc bn : Nat) (va vc vr vi vn : Value) (b1 b2 b3 b4 bl : List Nat) (nums : List Int) (T2 T5 T8 T9 : Nat) : Prop where
  accept : BoolsE bc w va c.accept b1
  call : Push2E bc w vc c.call b2
  ret : Ints3E bc w vr c.ret b3
  inner : Ints2E bc w vi c.inner b4
  box : Bx w T2 31 #[.int .i64 c.stack, .int .i64 c.start, va, vc, vr, vi]
  row : IntsE bn w vn nums bl
  t5 : w.cell? ⟨T5, 0, none⟩ = some vn
  t8 : w.cell? ⟨T8, 0, none⟩ = some (.func (.func 83) #[] #[.pointer (some ⟨T5, 0, none⟩)])
  t9 : w.cell? ⟨T9, 0, none⟩ = some (.func (.func 84) #[] #[.pointer (some ⟨T8, 0, none⟩)])

section
variable {w W : World} {c : Ck} {bc bn : Nat} {va vc vr vi vn : Value} {b1 b2 b3 b4 bl : List Nat} {nums : List Int} {T2 T5 T8 T9 : Nat}
theorem cell_later {w W : World} {p : Addr} {v : Value} (h : w.cell? p = some v) (hb : Below w.heap.size w W) : W.cell? p = some v := (hb.cell (World.block_lt_of_cell? _ _ h)).trans h
theorem WsAt.later (h : WsAt w c bc bn va vc vr vi vn b1 b2 b3 b4 bl nums T2 T5 T8 T9) (hb : Below w.heap.size w W) : WsAt W c bc bn va vc vr vi vn b1 b2 b3 b4 bl nums T2 T5 T8 T9 :=
  ⟨(bools_ok _).later h.accept hb, (push2_ok _).later h.call hb, (ints3_ok _).later h.ret hb, (ints2_ok _).later h.inner hb, h.box.later hb, (ints_ok _).later h.row hb, cell_later h.t5 hb, cell_later h.t8 hb, cell_later h.t9 hb⟩

/-- A call of a function that has a body enters it. -/
theorem enters {P : Program} {f : FuncId} {fn : Func} {c : Code} (hf : P.funcs[f]? = some fn) (hname : (fn.name == "runtime.NumGoroutine") = false) (hb : fn.body = some c) (args : Array Value) (w : World) :
    (callFunc f args).run P w = .ok (.enter f args) w := by
  have h1 : fn.name ≠ "runtime.NumGoroutine" := by simpa using hname
  simp [callFunc, hf, h1, hb]
theorem cf1 (args : Array Value) (w : World) : (callFunc 83 args).run Try.prog w = .ok (.enter 83 args) w :=
  enters (fn := Try.f83) (by kernel_rfl) (by kernel_rfl) rfl args w
theorem cf2 (args : Array Value) (w : World) : (callFunc 84 args).run Try.prog w = .ok (.enter 84 args) w :=
  enters (fn := Try.f84) (by kernel_rfl) (by kernel_rfl) rfl args w

/-- A state's new number. -/
def numAt (nums : List Int) (s : Int) : Int := nums.getD s.toNat 0
theorem numAt_of {nums : List Int} {k : Nat} {x : Int} (h : nums[k]? = some x) : numAt nums (k : Int) = x := by
  unfold numAt; rw [List.getD_eq_getElem?_getD, Int.toNat_natCast, h]; rfl
/-- All of a list are states. -/
def InL (n : Nat) (xs : List Int) : Prop := ∀ x ∈ xs, 0 ≤ x ∧ x < n

set_option maxHeartbeats 1600000 in
set_option maxRecDepth 100000 in
theorem ws1 (s : Int) (w : World) (h : WsAt w c bc bn va vc vr vi vn b1 b2 b3 b4 bl nums T2 T5 T8 T9) (hn : nums.length ≤ 1048576) (hs : 0 ≤ s ∧ s < nums.length) :
    Calls Try.prog 83 #[.int .i64 s, .pointer (some ⟨T5, 0, none⟩)] w (fun e w' => e = .returned (.int .i64 (numAt nums s)) ∧ Below w.heap.size w w') := by
  obtain ⟨k, rfl⟩ := Int.eq_ofNat_of_zero_le hs.1
  have hk : k < nums.length := by omega
  obtain ⟨x, hx⟩ : ∃ x, nums[k]? = some x := ⟨_, List.getElem?_eq_getElem hk⟩
  rw [numAt_of hx]
  have h5 := h.t5
  have hr := h.row
  obtain ⟨A, ka, rfl⟩ := RowE.slice hr
  obtain ⟨g, rfl, hg, _⟩ := RowE.head hr hk
  have hc : w.cell? ⟨g, k, none⟩ = _ := IntsE.cell' hr hx
  obtain ⟨n, hn'⟩ : ∃ n, n = nums.length := ⟨_, rfl⟩
  rw [← hn'] at hk h5 hn
  have hB := Below.refl w.heap.size w
  clear h hr hs hx hn'
  go_enter Try.func83, Try.ntmps83
  go_wp2
  go_ret
  exact ⟨rfl, hB⟩

set_option maxHeartbeats 1600000 in
set_option maxRecDepth 100000 in
theorem ws2 {v : Value} {xs : List Int} {b : Nat} {bs : List Nat} (w : World) (h : WsAt w c bc bn va vc vr vi vn b1 b2 b3 b4 bl nums T2 T5 T8 T9) (hn : nums.length ≤ 1048576) (hx : xs.length ≤ 1048576) (hv : IntsE b w v xs bs) (hin : InL nums.length xs) :
    Calls Try.prog 84 #[v, .pointer (some ⟨T8, 0, none⟩)] w (NewPost IntsE (xs.map (numAt nums)) w) := by
  have Q := Lib.hid (mapped_int_int w (numAt nums) 83 #[.pointer (some ⟨T5, 0, none⟩)] cf1 hx hv (fun x hxm W hW => ws1 x W (h.later hW) hn (hin x hxm)))
  have h8 := h.t8
  clear h hv hin hn hx
  go_enter Try.func84, Try.ntmps84
  go_wp2_with fail
  refine Q.out.mono ?_
  rintro e w1 ⟨v1, bs1, rfl, E1, hb1⟩
  go_wp2
  go_ret
  exact ⟨v1, bs1, rfl, E1, hb1⟩

set_option maxHeartbeats 1600000 in
set_option maxRecDepth 100000 in
theorem ws3 (s : Int) (w : World) (h : WsAt w c bc bn va vc vr vi vn b1 b2 b3 b4 bl nums T2 T5 T8 T9) (hn : c.accept.length ≤ 1048576) (hs : 0 ≤ s ∧ s < c.accept.length) :
    Calls Try.prog 87 #[.int .i64 s, .pointer (some ⟨T2, 0, none⟩)] w (fun e w' => e = .returned (.bool (c.accept.getD s.toNat false)) ∧ Below w.heap.size w w') := by
  obtain ⟨k, rfl⟩ := Int.eq_ofNat_of_zero_le hs.1
  have hk : k < c.accept.length := by omega
  obtain ⟨x, hx⟩ : ∃ x, c.accept[k]? = some x := ⟨_, List.getElem?_eq_getElem hk⟩
  rw [Int.toNat_natCast, show c.accept.getD k false = x by rw [List.getD_eq_getElem?_getD, hx]; rfl]
  have hr := h.accept
  obtain ⟨A, ka, rfl⟩ := RowE.slice hr
  obtain ⟨g, rfl, hg, _⟩ := RowE.head hr hk
  have hc : w.cell? ⟨g, k, none⟩ = _ := BoolsE.cell' hr hx
  obtain ⟨c0, c1, c2, c3, c4, c5, cl⟩ := id h.box.all6
  obtain ⟨n, hn'⟩ : ∃ n, n = c.accept.length := ⟨_, rfl⟩
  rw [← hn'] at hk c2 hn
  have hB := Below.refl w.heap.size w
  clear h hr hs hx hn'
  go_enter Try.func87, Try.ntmps87
  go_wp2
  go_ret
  exact ⟨rfl, hB⟩
end
end Go.Proofs.Ytdehehdcjfaefab
