/- withStates' closures that call others, of the program. -/
import Derived.Test.YtdehehdcjfaefabWith1
import Derived.Deep.DeepCutAuto
namespace Go.Proofs.Ytdehehdcjfaefab
open Go.RowKit
set_option linter.unusedVariables false

section
variable {w W : World} {c : Ck} {bc bn : Nat} {va vc vr vi vn : Value} {b1 b2 b3 b4 bl : List Nat} {nums : List Int} {T2 T5 T8 T9 : Nat}

/-- A move with its new state. -/
def numP (nums : List Int) (p : Int × Int) : Int × Int := (numAt nums p.1, p.2)
/-- All of a list of moves lead to states. -/
def InP (n : Nat) (xs : List (Int × Int)) : Prop := ∀ x ∈ xs, 0 ≤ x.1 ∧ x.1 < n

set_option maxHeartbeats 1600000 in
set_option maxRecDepth 100000 in
theorem ws41 (p : Int × Int) (w : World) (h : WsAt w c bc bn va vc vr vi vn b1 b2 b3 b4 bl nums T2 T5 T8 T9) (hn : nums.length ≤ 1048576) (hs : 0 ≤ p.1 ∧ p.1 < nums.length) :
    Calls Try.prog 91 #[.agg #[.int .i64 p.1, .int .i64 p.2], .pointer (some ⟨T8, 0, none⟩)] w (fun e w' => e = .returned (.agg #[.int .i64 (numP nums p).1, .int .i64 (numP nums p).2]) ∧ Below w.heap.size w w') := by
  obtain ⟨p0, p1⟩ := p
  show Calls _ _ _ _ (fun e w' => e = .returned (.agg #[.int .i64 (numAt nums p0), .int .i64 p1]) ∧ Below w.heap.size w w')
  dsimp only at hs ⊢
  have hB : Below w.heap.size w ((w.alloc (.cells #[.int .i64 p0, .int .i64 p1] 71)).alloc (.cells #[.int .i64 0, .int .i64 0] 71)) := ((Below.refl _ _).alloc (Nat.le_refl _) _).alloc (by simp) _
  have x1 := (Bx.new w 71 #[.int .i64 p0, .int .i64 p1]).alloc (.cells #[.int .i64 0, .int .i64 0] 71)
  have x2 := Bx.new (w.alloc (.cells #[.int .i64 p0, .int .i64 p1] 71)) 71 #[.int .i64 0, .int .i64 0]
  rw [World.size_alloc] at x2
  have Q := Lib.hid fun (W : World) (hW : Below w.heap.size w W) => ws1 p0 W (h.later hW) hn hs
  have HB := Lib.hid hB
  have h8 := cell_later h.t8 hB
  obtain ⟨q, hq⟩ : ∃ q, q = numAt nums p0 := ⟨_, rfl⟩
  rw [← hq] at Q ⊢
  have X1 := Lib.hid x1
  have X2 := Lib.hid x2
  obtain ⟨y0, y1, yl⟩ := x1.all2
  clear h hs hn hB x1 x2 hq
  go_enter Try.func91, Try.ntmps91
  go_upto_region 1 with fail
  go_region_with (first
    | (go_at_call 83
       refine (Q.out _ (by first | exact HB.out.drew | exact HB.out)).mono ?_
       rintro e w1 ⟨rfl, hb1⟩
       have hb2 : Below w.heap.size w w1 := by first | exact HB.out.drew.trans (hb1.mono HB.out.drew.size) | exact HB.out.trans (hb1.mono HB.out.size)
       have u1 : Bx w1 w.heap.size 71 #[.int .i64 p0, .int .i64 p1] := X1.out.later (by exact ⟨hb1.os, hb1.tape, hb1.output, hb1.size, hb1.block⟩)
       have u2 : Bx w1 (w.heap.size + 1) 71 #[.int .i64 0, .int .i64 0] := X2.out.later (by exact ⟨hb1.os, hb1.tape, hb1.output, hb1.size, hb1.block⟩)
       have z1 := u1.cell 1 _ rfl
       have f0 := u2.frozen 0
       have f1 := u2.frozen 1
       have g0 := u2.cell 0 _ rfl
       have g1 := u2.cell 1 _ rfl
       have gl := u2.lt))
  all_goals
    go_wp2
    have e0 := ((u2.set 0 (.int .i64 q)).set 1 (.int .i64 p1)).cell 0 (.int .i64 q) rfl
    have e1 := ((u2.set 0 (.int .i64 q)).set 1 (.int .i64 p1)).cell 1 (.int .i64 p1) rfl
    exact bodyPost_ret (v := .agg #[.int .i64 q, .int .i64 p1]) (by simp [results, Try.results91, go_sem, e0, e1]) rfl ⟨rfl, (hb2.setCell (p := ⟨w.heap.size + 1, 0, none⟩) (by simp) _).setCell (p := ⟨w.heap.size + 1, 1, none⟩) (by simp) _⟩

theorem cf41 (args : Array Value) (w : World) : (callFunc 91 args).run Try.prog w = .ok (.enter 91 args) w :=
  enters (fn := Try.f91) (by kernel_rfl) (by kernel_rfl) rfl args w

set_option maxHeartbeats 1600000 in
set_option maxRecDepth 100000 in
theorem ws4 (s : Int) (w : World) (hbd : BdC c) (h : WsAt w c bc bn va vc vr vi vn b1 b2 b3 b4 bl nums T2 T5 T8 T9) (hn : nums.length ≤ 1048576) (hs : 0 ≤ s ∧ s < c.call.length) (hin : ∀ x ∈ c.call, InP nums.length x) :
    Calls Try.prog 89 #[.int .i64 s, .pointer (some ⟨T2, 0, none⟩), .pointer (some ⟨T8, 0, none⟩)] w (NewPost PushE ((c.call.getD s.toNat []).map (numP nums)) w) := by
  obtain ⟨k, rfl⟩ := Int.eq_ofNat_of_zero_le hs.1
  have hk : k < c.call.length := by omega
  obtain ⟨x, hx⟩ : ∃ x, c.call[k]? = some x := ⟨_, List.getElem?_eq_getElem hk⟩
  rw [Int.toNat_natCast, show c.call.getD k [] = x by rw [List.getD_eq_getElem?_getD, hx]; rfl]
  have hr := h.call
  have hm := List.mem_of_getElem? hx
  have hlen := hbd.call.1
  obtain ⟨g, ka, u, d, hv, hc, hE, hg, _⟩ := hr.at_ (push_ok _) hx
  subst hv
  have Q := Lib.hid fun (W : World) (hW : Below w.heap.size w W) => mapped_push_push W (numP nums) 91 #[.pointer (some ⟨T8, 0, none⟩)] cf41 (hbd.call.2 x hm) ((push_ok _).later hE hW)
    (fun y hy W' hW' => ws41 y W' (h.later (hW.trans (hW'.mono hW.size))) hn (hin x hm y hy))
  obtain ⟨A2, k2, rfl⟩ := RowE.slice hE
  obtain ⟨c0, c1, c2, c3, c4, c5, cl⟩ := id h.box.all6
  obtain ⟨n, hn'⟩ : ∃ n, n = c.call.length := ⟨_, rfl⟩
  rw [← hn'] at hk c3 hlen
  have hB := Below.refl w.heap.size w
  clear h hr hs hx hn' hm hE hin hbd
  go_enter Try.func89, Try.ntmps89
  go_wp2_with fail
  refine (Q.out _ hB).mono ?_
  rintro e w1 ⟨v1, bs1, rfl, E1, hb1⟩
  go_wp2
  go_ret
  exact ⟨v1, bs1, rfl, E1, hb1⟩

set_option maxHeartbeats 1600000 in
set_option maxRecDepth 100000 in
theorem ws5 (s : Int) (w : World) (hbd : BdC c) (h : WsAt w c bc bn va vc vr vi vn b1 b2 b3 b4 bl nums T2 T5 T8 T9) (hn : nums.length ≤ 1048576) (hs : 0 ≤ s ∧ s < c.ret.length) (hin : ∀ x ∈ c.ret, ∀ y ∈ x, InL nums.length y) :
    Calls Try.prog 93 #[.int .i64 s, .pointer (some ⟨T2, 0, none⟩), .pointer (some ⟨T9, 0, none⟩)] w (NewPost Ints2E ((c.ret.getD s.toNat []).map fun y => y.map (numAt nums)) w) := by
  obtain ⟨k, rfl⟩ := Int.eq_ofNat_of_zero_le hs.1
  have hk : k < c.ret.length := by omega
  obtain ⟨x, hx⟩ : ∃ x, c.ret[k]? = some x := ⟨_, List.getElem?_eq_getElem hk⟩
  rw [Int.toNat_natCast, show c.ret.getD k [] = x by rw [List.getD_eq_getElem?_getD, hx]; rfl]
  have hr := h.ret
  have hm := List.mem_of_getElem? hx
  have hlen := hbd.ret.1
  obtain ⟨g, ka, u, d, hv, hc, hE, hg, _⟩ := hr.at_ (ints2_ok _) hx
  subst hv
  have hB := Below.refl w.heap.size w
  have Q := Lib.hid fun (W : World) (hW : Below w.heap.size w W) => mapped_ints_ints W (fun y => y.map (numAt nums)) 84 #[.pointer (some ⟨T8, 0, none⟩)] cf2 (hbd.ret.2 x hm).1 ((ints2_ok _).later hE hW)
    (fun y hy W' u' b' c' hW' hu' => ws2 W' (h.later (hW.trans (hW'.mono hW.size))) hn ((hbd.ret.2 x hm).2 y hy) hu' (hin x hm y hy))
  obtain ⟨A2, k2, rfl⟩ := ManyE.slice hE
  obtain ⟨c0, c1, c2, c3, c4, c5, cl⟩ := id h.box.all6
  have h9 := h.t9
  obtain ⟨n, hn'⟩ : ∃ n, n = c.ret.length := ⟨_, rfl⟩
  rw [← hn'] at hk c4 hlen
  have hB := Below.refl w.heap.size w
  clear h hr hs hx hn' hm hE hin hbd
  go_enter Try.func93, Try.ntmps93
  go_upto_region 1 with fail
  go_region_with (go_at_call 94; refine (Q.out _ (by first | exact hB.drew | exact hB)).mono ?_; rintro e w1 ⟨v1, bs1, rfl, E1, hb1⟩)
  all_goals
    go_wp2
    go_ret
    exact ⟨v1, bs1, rfl, E1, by first | exact hB.drew.trans (hb1.mono hB.drew.size) | exact hb1⟩

set_option maxHeartbeats 1600000 in
set_option maxRecDepth 100000 in
theorem ws6 (s : Int) (w : World) (hbd : BdC c) (h : WsAt w c bc bn va vc vr vi vn b1 b2 b3 b4 bl nums T2 T5 T8 T9) (hn : nums.length ≤ 1048576) (hs : 0 ≤ s ∧ s < c.inner.length) (hin : ∀ x ∈ c.inner, InL nums.length x) :
    Calls Try.prog 96 #[.int .i64 s, .pointer (some ⟨T9, 0, none⟩), .pointer (some ⟨T2, 0, none⟩)] w (NewPost IntsE ((c.inner.getD s.toNat []).map (numAt nums)) w) := by
  obtain ⟨k, rfl⟩ := Int.eq_ofNat_of_zero_le hs.1
  have hk : k < c.inner.length := by omega
  obtain ⟨x, hx⟩ : ∃ x, c.inner[k]? = some x := ⟨_, List.getElem?_eq_getElem hk⟩
  rw [Int.toNat_natCast, show c.inner.getD k [] = x by rw [List.getD_eq_getElem?_getD, hx]; rfl]
  have hr := h.inner
  have hm := List.mem_of_getElem? hx
  have hlen := hbd.inner.1
  obtain ⟨g, ka, u, d, hv, hc, hE, hg, _⟩ := hr.at_ (ints_ok _) hx
  subst hv
  have Q := Lib.hid fun (W : World) (hW : Below w.heap.size w W) => ws2 W (h.later hW) hn (hbd.inner.2 x hm) ((ints_ok _).later hE hW) (hin x hm)
  obtain ⟨A2, k2, rfl⟩ := RowE.slice hE
  obtain ⟨c0, c1, c2, c3, c4, c5, cl⟩ := id h.box.all6
  have h9 := h.t9
  obtain ⟨n, hn'⟩ : ∃ n, n = c.inner.length := ⟨_, rfl⟩
  rw [← hn'] at hk c5 hlen
  have hB := Below.refl w.heap.size w
  clear h hr hs hx hn' hm hE hin hbd
  go_enter Try.func96, Try.ntmps96
  go_upto_region 1 with fail
  go_region_with (go_at_call 84; refine (Q.out _ (by first | exact hB.drew | exact hB)).mono ?_; rintro e w1 ⟨v1, bs1, rfl, E1, hb1⟩)
  all_goals
    go_wp2
    go_ret
    exact ⟨v1, bs1, rfl, E1, by first | exact hB.drew.trans (hb1.mono hB.drew.size) | exact hb1⟩
end
end Go.Proofs.Ytdehehdcjfaefab
