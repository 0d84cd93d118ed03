/- toChecker, and the laws' functions that count what came in. -/
import Derived.Test.YticmekdfdilcpaaOpen
import Derived.Test.YticmekdfdilcpaaBox
namespace Go.Proofs.Yticmekdfdilcpaa
open Go.RowKit

/-- While toChecker runs: the argument's box, the result's, and that of what is made. -/
structure Stg (w W : World) (c1 c2 c3 : Array Value) : Prop where
  b1 : Bx W w.heap.size 40 c1
  b2 : Bx W (w.heap.size + 1) 46 c2
  b3 : Bx W (w.heap.size + 1 + 1) 46 c3
  below : Below w.heap.size w W
theorem Stg.size {w W : World} {c1 c2 c3 : Array Value} (h : Stg w W c1 c2 c3) : w.heap.size + 1 + 1 + 1 ≤ W.heap.size := h.b3.lt
theorem Stg.next {w W W' : World} {c1 c2 c3 : Array Value} (h : Stg w W c1 c2 c3) (hb : Below W.heap.size W W') (i : Nat) (u : Value) : Stg w (W'.setCell ⟨w.heap.size + 1 + 1, i, none⟩ u) c1 c2 (c3.setIfInBounds i u) :=
  ⟨(h.b1.later hb).other i u (by omega), (h.b2.later hb).other i u (by omega), (h.b3.later hb).set i u, (h.below.trans (hb.mono h.below.size)).setCell (p := ⟨w.heap.size + 1 + 1, i, none⟩) (by simp; omega) u⟩
set_option maxHeartbeats 3200000 in
set_option maxRecDepth 100000 in
theorem to_checker {v : Value} {c : Ck} (w : World) (hc : BdC c) (ha : CkR w v c) : Calls Try.prog 14 #[v] w (NewPost CkE c w) := by
  obtain ⟨va, vc, vr, vi, rfl, h1, h2, h3, h4⟩ := ha
  have q1 := Lib.hid fun (W : World) (hw : Below w.heap.size w W) => to_bools W hc.accept (bools_r.later h1 hw)
  have q2 := Lib.hid fun (W : World) (hw : Below w.heap.size w W) => to_pushes2 W hc.call (pushes2_r.later h2 hw)
  have q3 := Lib.hid fun (W : World) (hw : Below w.heap.size w W) => to_ints3 W hc.ret (ints3_r.later h3 hw)
  have q4 := Lib.hid fun (W : World) (hw : Below w.heap.size w W) => to_ints2 W hc.inner (ints2_r.later h4 hw)
  clear h1 h2 h3 h4 hc
  obtain ⟨s0, s1, ac, ca, re, inn⟩ := c
  dsimp only at q1 q2 q3 q4 ⊢
  obtain ⟨W0, hW0⟩ : ∃ W0, W0 = ((w.alloc (.cells #[.int .i64 s0, .int .i64 s1, va, vc, vr, vi] 40)).alloc (.cells #[.int .i64 0, .int .i64 0, .slice none 0 0, .slice none 0 0, .slice none 0 0, .slice none 0 0] 46)).alloc (.cells #[.int .i64 s0, .int .i64 s1, .slice none 0 0, .slice none 0 0, .slice none 0 0, .slice none 0 0] 46) := ⟨_, rfl⟩
  have x1 : Bx W0 w.heap.size 40 #[.int .i64 s0, .int .i64 s1, va, vc, vr, vi] := by rw [hW0]; exact ((Bx.new w _ _).alloc _).alloc _
  have x2 : Bx W0 (w.heap.size + 1) 46 #[.int .i64 0, .int .i64 0, .slice none 0 0, .slice none 0 0, .slice none 0 0, .slice none 0 0] := by
    rw [hW0]
    have := (Bx.new (w.alloc (.cells #[.int .i64 s0, .int .i64 s1, va, vc, vr, vi] 40)) 46 #[.int .i64 0, .int .i64 0, .slice none 0 0, .slice none 0 0, .slice none 0 0, .slice none 0 0]).alloc (.cells #[.int .i64 s0, .int .i64 s1, .slice none 0 0, .slice none 0 0, .slice none 0 0, .slice none 0 0] 46)
    rwa [World.size_alloc] at this
  have x3 : Bx W0 (w.heap.size + 1 + 1) 46 #[.int .i64 s0, .int .i64 s1, .slice none 0 0, .slice none 0 0, .slice none 0 0, .slice none 0 0] := by
    rw [hW0]
    have := Bx.new ((w.alloc (.cells #[.int .i64 s0, .int .i64 s1, va, vc, vr, vi] 40)).alloc (.cells #[.int .i64 0, .int .i64 0, .slice none 0 0, .slice none 0 0, .slice none 0 0, .slice none 0 0] 46)) 46 #[.int .i64 s0, .int .i64 s1, .slice none 0 0, .slice none 0 0, .slice none 0 0, .slice none 0 0]
    rwa [World.size_alloc, World.size_alloc] at this
  have hB0 : Below w.heap.size w W0 := by rw [hW0]; exact (((Below.refl _ _).alloc (Nat.le_refl _) _).alloc (by simp) _).alloc (by simp; omega) _
  have hz0 : W0.heap.size = w.heap.size + 1 + 1 + 1 := by rw [hW0]; simp
  have S0 : Stg w W0 #[.int .i64 s0, .int .i64 s1, va, vc, vr, vi] #[.int .i64 0, .int .i64 0, .slice none 0 0, .slice none 0 0, .slice none 0 0, .slice none 0 0] #[.int .i64 s0, .int .i64 s1, .slice none 0 0, .slice none 0 0, .slice none 0 0, .slice none 0 0] := ⟨x1, x2, x3, hB0⟩
  have HW0 := Lib.hid hW0
  have hS := S0.size
  clear hW0 x1 x2 x3
  go_enter Try.func14, Try.ntmps14
  go_wp2_with fail
  rw [← HW0.out]
  refine (q1.out _ hB0).mono ?_
  rintro e w1 ⟨v1, bs1, rfl, E1, hb1⟩
  obtain ⟨A1, k1, rfl⟩ := RowE.slice E1
  have S1 := S0.next hb1 2 (.slice A1 ac.length k1)
  have l1 := (bools_ok _).lt E1
  have E1a := keepE (bools_ok _) E1 (Below.refl _ _) (B := w.heap.size + 1 + 1) (fun b hb => by have := l1 b hb; omega) 2 (.slice A1 ac.length k1)
  have c0 := (S0.b1.later hb1).cell 3 _ rfl
  have c1 := (S0.b3.later hb1).cell 2 _ rfl
  have c2 := (S0.b3.later hb1).frozen 2
  have t0 := S1.size
  go_wp2_with fail
  refine (q2.out _ S1.below).mono ?_
  clear c0 c1 c2
  rintro e w2 ⟨v2, bs2, rfl, E2, hb2⟩
  obtain ⟨A2, k2, rfl⟩ := ManyE.slice E2
  have S2 := S1.next hb2 3 (.slice A2 ca.length k2)
  have l2 := (push2_ok _).lt E2
  rw [size_set] at l2 t0
  have E1b := keepE (bools_ok _) E1a hb2 (B := w.heap.size + 1 + 1) (fun b hb => by have := l1 b hb; omega) 3 (.slice A2 ca.length k2)
  have E2b := keepE (push2_ok _) E2 (Below.refl _ _) (B := w.heap.size + 1 + 1) (fun b hb => by have := l2 b hb; omega) 3 (.slice A2 ca.length k2)
  have c0 := (S1.b1.later hb2).cell 4 _ rfl
  have c1 := (S1.b3.later hb2).cell 3 _ rfl
  have c2 := (S1.b3.later hb2).frozen 3
  have t1 := S2.size
  go_wp2_with fail
  refine (q3.out _ S2.below).mono ?_
  clear c0 c1 c2
  rintro e w3 ⟨v3, bs3, rfl, E3, hb3⟩
  obtain ⟨A3, k3, rfl⟩ := ManyE.slice E3
  have S3 := S2.next hb3 4 (.slice A3 re.length k3)
  have l3 := (ints3_ok _).lt E3
  rw [size_set] at l3 t1
  have E1c := keepE (bools_ok _) E1b hb3 (B := w.heap.size + 1 + 1) (fun b hb => by have := l1 b hb; omega) 4 (.slice A3 re.length k3)
  have E2c := keepE (push2_ok _) E2b hb3 (B := w.heap.size + 1 + 1) (fun b hb => by have := l2 b hb; omega) 4 (.slice A3 re.length k3)
  have E3c := keepE (ints3_ok _) E3 (Below.refl _ _) (B := w.heap.size + 1 + 1) (fun b hb => by have := l3 b hb; omega) 4 (.slice A3 re.length k3)
  have c0 := (S2.b1.later hb3).cell 5 _ rfl
  have c1 := (S2.b3.later hb3).cell 4 _ rfl
  have c2 := (S2.b3.later hb3).frozen 4
  have t2 := S3.size
  go_wp2_with fail
  refine (q4.out _ S3.below).mono ?_
  clear c0 c1 c2
  rintro e w4 ⟨v4, bs4, rfl, E4, hb4⟩
  obtain ⟨A4, k4, rfl⟩ := ManyE.slice E4
  have S4 := S3.next hb4 5 (.slice A4 inn.length k4)
  have l4 := (ints2_ok _).lt E4
  rw [size_set] at l4 t2
  have E1d := keepE (bools_ok _) E1c hb4 (B := w.heap.size + 1 + 1) (fun b hb => by have := l1 b hb; omega) 5 (.slice A4 inn.length k4)
  have E2d := keepE (push2_ok _) E2c hb4 (B := w.heap.size + 1 + 1) (fun b hb => by have := l2 b hb; omega) 5 (.slice A4 inn.length k4)
  have E3d := keepE (ints3_ok _) E3c hb4 (B := w.heap.size + 1 + 1) (fun b hb => by have := l3 b hb; omega) 5 (.slice A4 inn.length k4)
  have E4d := keepE (ints2_ok _) E4 (Below.refl _ _) (B := w.heap.size + 1 + 1) (fun b hb => by have := l4 b hb; omega) 5 (.slice A4 inn.length k4)
  have d0 := S4.b3.cell 0 _ rfl
  have d1 := S4.b3.cell 1 _ rfl
  have d2 := S4.b3.cell 2 _ rfl
  have d3 := S4.b3.cell 3 _ rfl
  have d4 := S4.b3.cell 4 _ rfl
  have d5 := S4.b3.cell 5 _ rfl
  have c1 := (S3.b3.later hb4).cell 5 _ rfl
  have c2 := (S3.b3.later hb4).frozen 5
  have p1 := S4.b2
  have t3 := S4.size
  rw [size_set] at t3
  have e0 := p1.cell 0 _ rfl
  have f0 := p1.frozen 0
  have e1 := p1.cell 1 _ rfl
  have f1 := p1.frozen 1
  have e2 := p1.cell 2 _ rfl
  have f2 := p1.frozen 2
  have e3 := p1.cell 3 _ rfl
  have f3 := p1.frozen 3
  have e4 := p1.cell 4 _ rfl
  have f4 := p1.frozen 4
  have e5 := p1.cell 5 _ rfl
  have f5 := p1.frozen 5
  have pf := ((((((p1.set 0 (.int .i64 s0)).set 1 (.int .i64 s1)).set 2 (.slice A1 ac.length k1)).set 3 (.slice A2 ca.length k2)).set 4 (.slice A3 re.length k3)).set 5 (.slice A4 inn.length k4))
  have g0 := pf.cell 0 _ rfl
  have g1 := pf.cell 1 _ rfl
  have g2 := pf.cell 2 _ rfl
  have g3 := pf.cell 3 _ rfl
  have g4 := pf.cell 4 _ rfl
  have g5 := pf.cell 5 _ rfl
  have E1e := keepE (bools_ok _) (keepE (bools_ok _) (keepE (bools_ok _) (keepE (bools_ok _) (keepE (bools_ok _) (keepE (bools_ok _) (E1d) (Below.refl _ _) (B := w.heap.size + 1) (fun b hb => by have := l1 b hb; omega) 0 (.int .i64 s0)) (Below.refl _ _) (B := w.heap.size + 1) (fun b hb => by have := l1 b hb; omega) 1 (.int .i64 s1)) (Below.refl _ _) (B := w.heap.size + 1) (fun b hb => by have := l1 b hb; omega) 2 (.slice A1 ac.length k1)) (Below.refl _ _) (B := w.heap.size + 1) (fun b hb => by have := l1 b hb; omega) 3 (.slice A2 ca.length k2)) (Below.refl _ _) (B := w.heap.size + 1) (fun b hb => by have := l1 b hb; omega) 4 (.slice A3 re.length k3)) (Below.refl _ _) (B := w.heap.size + 1) (fun b hb => by have := l1 b hb; omega) 5 (.slice A4 inn.length k4)
  have E2e := keepE (push2_ok _) (keepE (push2_ok _) (keepE (push2_ok _) (keepE (push2_ok _) (keepE (push2_ok _) (keepE (push2_ok _) (E2d) (Below.refl _ _) (B := w.heap.size + 1) (fun b hb => by have := l2 b hb; omega) 0 (.int .i64 s0)) (Below.refl _ _) (B := w.heap.size + 1) (fun b hb => by have := l2 b hb; omega) 1 (.int .i64 s1)) (Below.refl _ _) (B := w.heap.size + 1) (fun b hb => by have := l2 b hb; omega) 2 (.slice A1 ac.length k1)) (Below.refl _ _) (B := w.heap.size + 1) (fun b hb => by have := l2 b hb; omega) 3 (.slice A2 ca.length k2)) (Below.refl _ _) (B := w.heap.size + 1) (fun b hb => by have := l2 b hb; omega) 4 (.slice A3 re.length k3)) (Below.refl _ _) (B := w.heap.size + 1) (fun b hb => by have := l2 b hb; omega) 5 (.slice A4 inn.length k4)
  have E3e := keepE (ints3_ok _) (keepE (ints3_ok _) (keepE (ints3_ok _) (keepE (ints3_ok _) (keepE (ints3_ok _) (keepE (ints3_ok _) (E3d) (Below.refl _ _) (B := w.heap.size + 1) (fun b hb => by have := l3 b hb; omega) 0 (.int .i64 s0)) (Below.refl _ _) (B := w.heap.size + 1) (fun b hb => by have := l3 b hb; omega) 1 (.int .i64 s1)) (Below.refl _ _) (B := w.heap.size + 1) (fun b hb => by have := l3 b hb; omega) 2 (.slice A1 ac.length k1)) (Below.refl _ _) (B := w.heap.size + 1) (fun b hb => by have := l3 b hb; omega) 3 (.slice A2 ca.length k2)) (Below.refl _ _) (B := w.heap.size + 1) (fun b hb => by have := l3 b hb; omega) 4 (.slice A3 re.length k3)) (Below.refl _ _) (B := w.heap.size + 1) (fun b hb => by have := l3 b hb; omega) 5 (.slice A4 inn.length k4)
  have E4e := keepE (ints2_ok _) (keepE (ints2_ok _) (keepE (ints2_ok _) (keepE (ints2_ok _) (keepE (ints2_ok _) (keepE (ints2_ok _) (E4d) (Below.refl _ _) (B := w.heap.size + 1) (fun b hb => by have := l4 b hb; omega) 0 (.int .i64 s0)) (Below.refl _ _) (B := w.heap.size + 1) (fun b hb => by have := l4 b hb; omega) 1 (.int .i64 s1)) (Below.refl _ _) (B := w.heap.size + 1) (fun b hb => by have := l4 b hb; omega) 2 (.slice A1 ac.length k1)) (Below.refl _ _) (B := w.heap.size + 1) (fun b hb => by have := l4 b hb; omega) 3 (.slice A2 ca.length k2)) (Below.refl _ _) (B := w.heap.size + 1) (fun b hb => by have := l4 b hb; omega) 4 (.slice A3 re.length k3)) (Below.refl _ _) (B := w.heap.size + 1) (fun b hb => by have := l4 b hb; omega) 5 (.slice A4 inn.length k4)
  have hBf := ((((((S4.below.setCell (p := ⟨w.heap.size + 1, 0, none⟩) (by simp) (.int .i64 s0)).setCell (p := ⟨w.heap.size + 1, 1, none⟩) (by simp) (.int .i64 s1)).setCell (p := ⟨w.heap.size + 1, 2, none⟩) (by simp) (.slice A1 ac.length k1)).setCell (p := ⟨w.heap.size + 1, 3, none⟩) (by simp) (.slice A2 ca.length k2)).setCell (p := ⟨w.heap.size + 1, 4, none⟩) (by simp) (.slice A3 re.length k3)).setCell (p := ⟨w.heap.size + 1, 5, none⟩) (by simp) (.slice A4 inn.length k4))
  have m1 := hb2.size
  have m2 := hb3.size
  have m3 := hb4.size
  rw [size_set] at m1 m2 m3
  have hn : (bs1 ++ (bs2 ++ (bs3 ++ bs4))).Nodup := by
    have n1 := (bools_ok _).nodup E1
    have n2 := (push2_ok _).nodup E2
    have n3 := (ints3_ok _).nodup E3
    have n4 := (ints2_ok _).nodup E4
    rw [List.nodup_append, List.nodup_append, List.nodup_append]
    refine ⟨n1, ⟨n2, ⟨n3, n4, ?_⟩, ?_⟩, ?_⟩
    · intro a ha b hb e
      subst e
      have := l3 a ha
      have := l4 a hb
      omega
    · intro a ha b hb e
      subst e
      have := l2 a ha
      rcases List.mem_append.1 hb with hb | hb
      · have := l3 a hb; omega
      · have := l4 a hb; omega
    · intro a ha b hb e
      subst e
      have := l1 a ha
      rcases List.mem_append.1 hb with hb | hb
      · have := l2 a hb; omega
      · rcases List.mem_append.1 hb with hb | hb
        · have := l3 a hb; omega
        · have := l4 a hb; omega
  have Hn := Lib.hid hn
  clear hn
  go_wp2
  have hz1 : w.heap.size ≤ W0.heap.size := by omega
  have hz2 : w.heap.size ≤ w1.heap.size := by omega
  have hz3 : w.heap.size ≤ w2.heap.size := by omega
  have hz4 : w.heap.size ≤ w3.heap.size := by omega
  refine bodyPost_ret (v := .agg #[.int .i64 s0, .int .i64 s1, .slice A1 ac.length k1, .slice A2 ca.length k2, .slice A3 re.length k3, .slice A4 inn.length k4]) (by simp [results, Try.results14, go_sem, g0, g1, g2, g3, g4, g5]) rfl ?_
  exact ⟨_, _, rfl, ⟨_, _, _, _, bs1, bs2, bs3, bs4, rfl, bools_base hz1 _ _ _ _ E1e, pushes2_base (by rw [size_set]; exact hz2) _ _ _ _ E2e, ints3_base (by rw [size_set]; exact hz3) _ _ _ _ E3e, ints2_base (by rw [size_set]; exact hz4) _ _ _ _ E4e, rfl, Hn.out⟩, hBf⟩


/-- What is left, or that there is too much. -/
def dec (left n : Nat) : Int := if n ≤ left then ((left - n : Nat) : Int) else -1
theorem dec_yes {left n : Nat} (h : n ≤ left) : dec left n = ((left - n : Nat) : Int) := by rw [dec, if_pos h]
theorem dec_no {left n : Nat} (h : ¬ n ≤ left) : dec left n = -1 := by rw [dec, if_neg h]
def lenA {α : Type} (x : List α) : Nat := x.length
def cnt2 {α : Type} (xs : List (List α)) : Nat := xs.length + szL lenA xs
def cnt3 {α : Type} (xs : List (List (List α))) : Nat := xs.length + szL cnt2 xs


theorem sz_bools {v : Value} {xs : List Bool} (left : Nat) (w : World) (hl : left ≤ 1048576) (ha : BoolsR w v xs) : Calls Try.prog 28 #[v, .int .i64 (left : Int)] w fun e w' => e = .returned (.int .i64 (dec left (lenA xs))) ∧ w = w' := by
  obtain ⟨A, ca, rfl, hm, _⟩ := ha
  unfold lenA
  unfold maxLen at hm
  generalize xs.length = n at hm ⊢
  by_cases h : n ≤ left
  · rw [dec_yes h]
    go_enter Try.func28, Try.ntmps28
    go_wp2
    go_ret
    exact ⟨by go_num, rfl⟩
  · rw [dec_no h]
    have h' : left < n := by omega
    clear h
    go_enter Try.func28, Try.ntmps28
    go_wp2
    go_ret
    exact ⟨rfl, rfl⟩

theorem sz_ints {v : Value} {xs : List Int} (left : Nat) (w : World) (hl : left ≤ 1048576) (ha : IntsR w v xs) : Calls Try.prog 27 #[v, .int .i64 (left : Int)] w fun e w' => e = .returned (.int .i64 (dec left (lenA xs))) ∧ w = w' := by
  obtain ⟨A, ca, rfl, hm, _⟩ := ha
  unfold lenA
  unfold maxLen at hm
  generalize xs.length = n at hm ⊢
  by_cases h : n ≤ left
  · rw [dec_yes h]
    go_enter Try.func27, Try.ntmps27
    go_wp2
    go_ret
    exact ⟨by go_num, rfl⟩
  · rw [dec_no h]
    have h' : left < n := by omega
    clear h
    go_enter Try.func27, Try.ntmps27
    go_wp2
    go_ret
    exact ⟨rfl, rfl⟩

theorem sz_pushes {v : Value} {xs : List (Int × Int)} (left : Nat) (w : World) (hl : left ≤ 1048576) (ha : PushR w v xs) : Calls Try.prog 96 #[v, .int .i64 (left : Int)] w fun e w' => e = .returned (.int .i64 (dec left (lenA xs))) ∧ w = w' := by
  obtain ⟨A, ca, rfl, hm, _⟩ := ha
  unfold lenA
  unfold maxLen at hm
  generalize xs.length = n at hm ⊢
  by_cases h : n ≤ left
  · rw [dec_yes h]
    go_enter Try.func96, Try.ntmps96
    go_wp2
    go_ret
    exact ⟨by go_num, rfl⟩
  · rw [dec_no h]
    have h' : left < n := by omega
    clear h
    go_enter Try.func96, Try.ntmps96
    go_wp2
    go_ret
    exact ⟨rfl, rfl⟩

set_option maxHeartbeats 1600000 in
set_option maxRecDepth 100000 in
theorem sz_ints2 {v : Value} {xs : List (List Int)} (left : Nat) (w : World) (hl : left ≤ 1048576) (ha : Ints2R w v xs) : Calls Try.prog 46 #[v, .int .i64 (left : Int)] w fun e w' => e = .returned (.int .i64 (dec left (cnt2 xs))) ∧ w = w' := by
  obtain ⟨A, ca, rfl, hm, hA⟩ := ha
  unfold maxLen at hm
  obtain ⟨n, hn'⟩ : ∃ n, n = xs.length := ⟨_, rfl⟩
  obtain ⟨t, ht⟩ : ∃ t, t = cnt2 xs := ⟨_, rfl⟩
  have htn : t = n + szL lenA xs := by rw [ht, hn']; rfl
  have Hn := Lib.hid hn'
  have HA := Lib.hid hA
  have Ht := Lib.hid htn
  rw [← hn'] at hm ⊢
  rw [← ht]
  clear hn' hA ht htn
  by_cases h0 : n ≤ left
  · obtain ⟨q0, hq0⟩ : ∃ q0, q0 = left - n := ⟨_, rfl⟩
    have hq1 : q0 + n = left := by omega
    have hq2 : ((left : Int) - (n : Int)) = (q0 : Int) := by omega
    have hq3 : q0 ≤ 1048576 := by omega
    clear hq0
    have Hq1 := Lib.hid hq1
    have Hq2 := Lib.hid hq2
    clear hq1 hq2
    go_enter Try.func46, Try.ntmps46
    go_wp2
    go_loop [1, 5] (fun l i => ∃ j q : Nat, j ≤ n ∧ i = .int .i64 j ∧ l = .int .i64 (q : Int) ∧ q ≤ 1048576 ∧ Hid (q + n + szL lenA (xs.take j) = left)) (fun _ i => n - (intOf i).toNat)
    case atStart => exact ⟨0, q0, Nat.zero_le _, rfl, by rw [Hq2.out], hq3, by show _ = _; rw [← Hq1.out]; simp [szL]⟩
    case round =>
      obtain ⟨j, q, hj, rfl, rfl, hq, hsum⟩ := hrel
      by_cases hlt : j < n
      · have hjx : j < xs.length := by rw [← Hn.out]; exact hlt
        obtain ⟨x, hx⟩ : ∃ x, xs[j]? = some x := ⟨_, List.getElem?_eq_getElem hjx⟩
        obtain ⟨A', u, rfl, _, hc, hu⟩ := HA.out j x hx
        have hss := szL_take_succ (sz := lenA) hx
        have hle := szL_take_le (sz := lenA) xs (j + 1)
        obtain ⟨y, hy⟩ : ∃ y, y = lenA x := ⟨_, rfl⟩
        have hsub := sz_ints q w hq hu
        rw [show lenA x = y from hy.symm] at hsub
        rw [← hy] at hss
        have Hss := Lib.hid hss
        have Hle := Lib.hid hle
        clear hss hle hjx hx hy hu
        by_cases hyq : y ≤ q
        · rw [dec_yes hyq] at hsub
          have Hsub := Lib.hid hsub
          obtain ⟨q', hq'⟩ : ∃ q', q' = q - y := ⟨_, rfl⟩
          have hq2 : q' + y = q := by omega
          rw [← hq'] at Hsub
          clear hsub hq'
          go_wp2_with (go_at_call 27; refine Hsub.out.mono ?_; rintro e w' ⟨rfl, rfl⟩)
          go_round
          case rel => exact ⟨j + 1, q', by omega, by go_num, rfl, by omega, by show _ = _; have := hsum.out; have := Hss.out; omega⟩
          case measure => simp [intOf]; omega
        · rw [dec_no hyq] at hsub
          have Hsub := Lib.hid hsub
          have hno : ¬ t ≤ left := by
            have := hsum.out
            have := Hss.out
            have := Hle.out
            have := Ht.out
            omega
          have hd := Lib.hid (dec_no hno)
          clear hsub hyq hno
          go_wp2_with (go_at_call 27; refine Hsub.out.mono ?_; rintro e w' ⟨rfl, rfl⟩)
          go_ret
          exact ⟨by rw [hd.out]; rfl, rfl⟩
      · have e : j = n := by omega
        subst e
        have hall : q + t = left := by
          have h1 := hsum.out
          rw [Hn.out, List.take_length] at h1
          have := Ht.out
          have := Hn.out
          omega
        have hv : ((left - t : Nat) : Int) = (q : Int) := by omega
        have hd := Lib.hid ((dec_yes (left := left) (n := t) (by omega)).trans hv)
        clear hall hv hsum
        go_wp2
        go_ret
        exact ⟨by rw [hd.out]; rfl, rfl⟩
  · have h' : left < n := by omega
    have hno : ¬ t ≤ left := by have := Ht.out; omega
    rw [dec_no hno]
    clear h0 hno
    go_enter Try.func46, Try.ntmps46
    go_wp2
    go_ret
    exact ⟨rfl, rfl⟩

set_option maxHeartbeats 1600000 in
set_option maxRecDepth 100000 in
theorem sz_pushes2 {v : Value} {xs : List (List (Int × Int))} (left : Nat) (w : World) (hl : left ≤ 1048576) (ha : Push2R w v xs) : Calls Try.prog 45 #[v, .int .i64 (left : Int)] w fun e w' => e = .returned (.int .i64 (dec left (cnt2 xs))) ∧ w = w' := by
  obtain ⟨A, ca, rfl, hm, hA⟩ := ha
  unfold maxLen at hm
  obtain ⟨n, hn'⟩ : ∃ n, n = xs.length := ⟨_, rfl⟩
  obtain ⟨t, ht⟩ : ∃ t, t = cnt2 xs := ⟨_, rfl⟩
  have htn : t = n + szL lenA xs := by rw [ht, hn']; rfl
  have Hn := Lib.hid hn'
  have HA := Lib.hid hA
  have Ht := Lib.hid htn
  rw [← hn'] at hm ⊢
  rw [← ht]
  clear hn' hA ht htn
  by_cases h0 : n ≤ left
  · obtain ⟨q0, hq0⟩ : ∃ q0, q0 = left - n := ⟨_, rfl⟩
    have hq1 : q0 + n = left := by omega
    have hq2 : ((left : Int) - (n : Int)) = (q0 : Int) := by omega
    have hq3 : q0 ≤ 1048576 := by omega
    clear hq0
    have Hq1 := Lib.hid hq1
    have Hq2 := Lib.hid hq2
    clear hq1 hq2
    go_enter Try.func45, Try.ntmps45
    go_wp2
    go_loop [1, 5] (fun l i => ∃ j q : Nat, j ≤ n ∧ i = .int .i64 j ∧ l = .int .i64 (q : Int) ∧ q ≤ 1048576 ∧ Hid (q + n + szL lenA (xs.take j) = left)) (fun _ i => n - (intOf i).toNat)
    case atStart => exact ⟨0, q0, Nat.zero_le _, rfl, by rw [Hq2.out], hq3, by show _ = _; rw [← Hq1.out]; simp [szL]⟩
    case round =>
      obtain ⟨j, q, hj, rfl, rfl, hq, hsum⟩ := hrel
      by_cases hlt : j < n
      · have hjx : j < xs.length := by rw [← Hn.out]; exact hlt
        obtain ⟨x, hx⟩ : ∃ x, xs[j]? = some x := ⟨_, List.getElem?_eq_getElem hjx⟩
        obtain ⟨A', u, rfl, _, hc, hu⟩ := HA.out j x hx
        have hss := szL_take_succ (sz := lenA) hx
        have hle := szL_take_le (sz := lenA) xs (j + 1)
        obtain ⟨y, hy⟩ : ∃ y, y = lenA x := ⟨_, rfl⟩
        have hsub := sz_pushes q w hq hu
        rw [show lenA x = y from hy.symm] at hsub
        rw [← hy] at hss
        have Hss := Lib.hid hss
        have Hle := Lib.hid hle
        clear hss hle hjx hx hy hu
        by_cases hyq : y ≤ q
        · rw [dec_yes hyq] at hsub
          have Hsub := Lib.hid hsub
          obtain ⟨q', hq'⟩ : ∃ q', q' = q - y := ⟨_, rfl⟩
          have hq2 : q' + y = q := by omega
          rw [← hq'] at Hsub
          clear hsub hq'
          go_wp2_with (go_at_call 96; refine Hsub.out.mono ?_; rintro e w' ⟨rfl, rfl⟩)
          go_round
          case rel => exact ⟨j + 1, q', by omega, by go_num, rfl, by omega, by show _ = _; have := hsum.out; have := Hss.out; omega⟩
          case measure => simp [intOf]; omega
        · rw [dec_no hyq] at hsub
          have Hsub := Lib.hid hsub
          have hno : ¬ t ≤ left := by
            have := hsum.out
            have := Hss.out
            have := Hle.out
            have := Ht.out
            omega
          have hd := Lib.hid (dec_no hno)
          clear hsub hyq hno
          go_wp2_with (go_at_call 96; refine Hsub.out.mono ?_; rintro e w' ⟨rfl, rfl⟩)
          go_ret
          exact ⟨by rw [hd.out]; rfl, rfl⟩
      · have e : j = n := by omega
        subst e
        have hall : q + t = left := by
          have h1 := hsum.out
          rw [Hn.out, List.take_length] at h1
          have := Ht.out
          have := Hn.out
          omega
        have hv : ((left - t : Nat) : Int) = (q : Int) := by omega
        have hd := Lib.hid ((dec_yes (left := left) (n := t) (by omega)).trans hv)
        clear hall hv hsum
        go_wp2
        go_ret
        exact ⟨by rw [hd.out]; rfl, rfl⟩
  · have h' : left < n := by omega
    have hno : ¬ t ≤ left := by have := Ht.out; omega
    rw [dec_no hno]
    clear h0 hno
    go_enter Try.func45, Try.ntmps45
    go_wp2
    go_ret
    exact ⟨rfl, rfl⟩

set_option maxHeartbeats 1600000 in
set_option maxRecDepth 100000 in
theorem sz_ints3 {v : Value} {xs : List (List (List Int))} (left : Nat) (w : World) (hl : left ≤ 1048576) (ha : Ints3R w v xs) : Calls Try.prog 31 #[v, .int .i64 (left : Int)] w fun e w' => e = .returned (.int .i64 (dec left (cnt3 xs))) ∧ w = w' := by
  obtain ⟨A, ca, rfl, hm, hA⟩ := ha
  unfold maxLen at hm
  obtain ⟨n, hn'⟩ : ∃ n, n = xs.length := ⟨_, rfl⟩
  obtain ⟨t, ht⟩ : ∃ t, t = cnt3 xs := ⟨_, rfl⟩
  have htn : t = n + szL cnt2 xs := by rw [ht, hn']; rfl
  have Hn := Lib.hid hn'
  have HA := Lib.hid hA
  have Ht := Lib.hid htn
  rw [← hn'] at hm ⊢
  rw [← ht]
  clear hn' hA ht htn
  by_cases h0 : n ≤ left
  · obtain ⟨q0, hq0⟩ : ∃ q0, q0 = left - n := ⟨_, rfl⟩
    have hq1 : q0 + n = left := by omega
    have hq2 : ((left : Int) - (n : Int)) = (q0 : Int) := by omega
    have hq3 : q0 ≤ 1048576 := by omega
    clear hq0
    have Hq1 := Lib.hid hq1
    have Hq2 := Lib.hid hq2
    clear hq1 hq2
    go_enter Try.func31, Try.ntmps31
    go_wp2
    go_loop [1, 5] (fun l i => ∃ j q : Nat, j ≤ n ∧ i = .int .i64 j ∧ l = .int .i64 (q : Int) ∧ q ≤ 1048576 ∧ Hid (q + n + szL cnt2 (xs.take j) = left)) (fun _ i => n - (intOf i).toNat)
    case atStart => exact ⟨0, q0, Nat.zero_le _, rfl, by rw [Hq2.out], hq3, by show _ = _; rw [← Hq1.out]; simp [szL]⟩
    case round =>
      obtain ⟨j, q, hj, rfl, rfl, hq, hsum⟩ := hrel
      by_cases hlt : j < n
      · have hjx : j < xs.length := by rw [← Hn.out]; exact hlt
        obtain ⟨x, hx⟩ : ∃ x, xs[j]? = some x := ⟨_, List.getElem?_eq_getElem hjx⟩
        obtain ⟨A', u, rfl, _, hc, hu⟩ := HA.out j x hx
        have hss := szL_take_succ (sz := cnt2) hx
        have hle := szL_take_le (sz := cnt2) xs (j + 1)
        obtain ⟨y, hy⟩ : ∃ y, y = cnt2 x := ⟨_, rfl⟩
        have hsub := sz_ints2 q w hq hu
        rw [show cnt2 x = y from hy.symm] at hsub
        rw [← hy] at hss
        have Hss := Lib.hid hss
        have Hle := Lib.hid hle
        clear hss hle hjx hx hy hu
        by_cases hyq : y ≤ q
        · rw [dec_yes hyq] at hsub
          have Hsub := Lib.hid hsub
          obtain ⟨q', hq'⟩ : ∃ q', q' = q - y := ⟨_, rfl⟩
          have hq2 : q' + y = q := by omega
          rw [← hq'] at Hsub
          clear hsub hq'
          go_wp2_with (go_at_call 46; refine Hsub.out.mono ?_; rintro e w' ⟨rfl, rfl⟩)
          go_round
          case rel => exact ⟨j + 1, q', by omega, by go_num, rfl, by omega, by show _ = _; have := hsum.out; have := Hss.out; omega⟩
          case measure => simp [intOf]; omega
        · rw [dec_no hyq] at hsub
          have Hsub := Lib.hid hsub
          have hno : ¬ t ≤ left := by
            have := hsum.out
            have := Hss.out
            have := Hle.out
            have := Ht.out
            omega
          have hd := Lib.hid (dec_no hno)
          clear hsub hyq hno
          go_wp2_with (go_at_call 46; refine Hsub.out.mono ?_; rintro e w' ⟨rfl, rfl⟩)
          go_ret
          exact ⟨by rw [hd.out]; rfl, rfl⟩
      · have e : j = n := by omega
        subst e
        have hall : q + t = left := by
          have h1 := hsum.out
          rw [Hn.out, List.take_length] at h1
          have := Ht.out
          have := Hn.out
          omega
        have hv : ((left - t : Nat) : Int) = (q : Int) := by omega
        have hd := Lib.hid ((dec_yes (left := left) (n := t) (by omega)).trans hv)
        clear hall hv hsum
        go_wp2
        go_ret
        exact ⟨by rw [hd.out]; rfl, rfl⟩
  · have h' : left < n := by omega
    have hno : ¬ t ≤ left := by have := Ht.out; omega
    rw [dec_no hno]
    clear h0 hno
    go_enter Try.func31, Try.ntmps31
    go_wp2
    go_ret
    exact ⟨rfl, rfl⟩

def cntC (c : Ck) : Nat := lenA c.accept + (cnt2 c.call + (cnt3 c.ret + cnt2 c.inner))
set_option maxHeartbeats 3200000 in
set_option maxRecDepth 100000 in
theorem sz_checker {v : Value} {c : Ck} (left : Nat) (w : World) (hl : left ≤ 1048576) (ha : CkR w v c) : Calls Try.prog 12 #[v, .int .i64 (left : Int)] w fun e w' => e = .returned (.int .i64 (dec left (cntC c))) ∧ Below w.heap.size w w' := by
  obtain ⟨va, vc, vr, vi, rfl, h1, h2, h3, h4⟩ := ha
  obtain ⟨s0, s1, ac, ca, re, inn⟩ := c
  dsimp only at h1 h2 h3 h4 ⊢
  have hB : Below w.heap.size w (w.alloc (.cells #[.int .i64 s0, .int .i64 s1, va, vc, vr, vi] 40)) := (Below.refl _ _).alloc (Nat.le_refl _) _
  have q1 := Lib.hid fun (l : Nat) (hl : l ≤ 1048576) => sz_bools l _ hl (bools_r.later h1 hB)
  have q2 := Lib.hid fun (l : Nat) (hl : l ≤ 1048576) => sz_pushes2 l _ hl (pushes2_r.later h2 hB)
  have q3 := Lib.hid fun (l : Nat) (hl : l ≤ 1048576) => sz_ints3 l _ hl (ints3_r.later h3 hB)
  have q4 := Lib.hid fun (l : Nat) (hl : l ≤ 1048576) => sz_ints2 l _ hl (ints2_r.later h4 hB)
  obtain ⟨a1, ha1⟩ : ∃ a, a = lenA ac := ⟨_, rfl⟩
  obtain ⟨a2, ha2⟩ : ∃ a, a = cnt2 ca := ⟨_, rfl⟩
  obtain ⟨a3, ha3⟩ : ∃ a, a = cnt3 re := ⟨_, rfl⟩
  obtain ⟨a4, ha4⟩ : ∃ a, a = cnt2 inn := ⟨_, rfl⟩
  rw [← ha1] at q1
  rw [← ha2] at q2
  rw [← ha3] at q3
  rw [← ha4] at q4
  have ht : cntC ⟨s0, s1, ac, ca, re, inn⟩ = a1 + (a2 + (a3 + a4)) := by rw [cntC, ha1, ha2, ha3, ha4]
  rw [ht]
  clear ha1 ha2 ha3 ha4 ht h1 h2 h3 h4
  by_cases t1 : a1 ≤ left
  case' pos =>
    obtain ⟨l1, k1⟩ : ∃ l1, left = l1 + a1 := ⟨left - a1, by omega⟩
    have g1 := q1.out left hl
    rw [dec_yes t1, show left - a1 = l1 from by omega] at g1
    have G1 := Lib.hid g1
    have m1 : l1 ≤ 1048576 := by omega
    clear g1 t1
    by_cases t2 : a2 ≤ l1
    case' pos =>
      obtain ⟨l2, k2⟩ : ∃ l2, l1 = l2 + a2 := ⟨l1 - a2, by omega⟩
      have g2 := q2.out l1 m1
      rw [dec_yes t2, show l1 - a2 = l2 from by omega] at g2
      have G2 := Lib.hid g2
      have m2 : l2 ≤ 1048576 := by omega
      clear g2 t2
      by_cases t3 : a3 ≤ l2
      case' pos =>
        obtain ⟨l3, k3⟩ : ∃ l3, l2 = l3 + a3 := ⟨l2 - a3, by omega⟩
        have g3 := q3.out l2 m2
        rw [dec_yes t3, show l2 - a3 = l3 from by omega] at g3
        have G3 := Lib.hid g3
        have m3 : l3 ≤ 1048576 := by omega
        clear g3 t3
        by_cases t4 : a4 ≤ l3
        case' pos =>
          obtain ⟨l4, k4⟩ : ∃ l4, l3 = l4 + a4 := ⟨l3 - a4, by omega⟩
          have g4 := q4.out l3 m3
          rw [dec_yes t4, show l3 - a4 = l4 from by omega] at g4
          have G4 := Lib.hid g4
          have m4 : l4 ≤ 1048576 := by omega
          rw [dec_yes (by omega), show left - (a1 + (a2 + (a3 + a4))) = l4 from by omega]
          clear g4 t4 k1 k2 k3 k4
          go_enter Try.func12, Try.ntmps12
          go_wp2_with fail
          refine G1.out.mono ?_
          rintro e w' ⟨rfl, rfl⟩
          go_wp2_with fail
          refine G2.out.mono ?_
          rintro e w' ⟨rfl, rfl⟩
          go_wp2_with fail
          refine G3.out.mono ?_
          rintro e w' ⟨rfl, rfl⟩
          go_wp2_with fail
          refine G4.out.mono ?_
          rintro e w' ⟨rfl, rfl⟩
          go_wp2
          go_ret
          exact ⟨rfl, hB⟩
        case neg =>
          have g4 := q4.out l3 m3
          rw [dec_no t4] at g4
          have G4 := Lib.hid g4
          rw [dec_no (by omega)]
          clear g4 t4 k1 k2 k3
          go_enter Try.func12, Try.ntmps12
          go_wp2_with fail
          refine G1.out.mono ?_
          rintro e w' ⟨rfl, rfl⟩
          go_wp2_with fail
          refine G2.out.mono ?_
          rintro e w' ⟨rfl, rfl⟩
          go_wp2_with fail
          refine G3.out.mono ?_
          rintro e w' ⟨rfl, rfl⟩
          go_wp2_with fail
          refine G4.out.mono ?_
          rintro e w' ⟨rfl, rfl⟩
          go_wp2
          go_ret
          exact ⟨rfl, hB⟩
      case neg =>
        have g3 := q3.out l2 m2
        rw [dec_no t3] at g3
        have G3 := Lib.hid g3
        rw [dec_no (by omega)]
        clear g3 t3 k1 k2
        go_enter Try.func12, Try.ntmps12
        go_wp2_with fail
        refine G1.out.mono ?_
        rintro e w' ⟨rfl, rfl⟩
        go_wp2_with fail
        refine G2.out.mono ?_
        rintro e w' ⟨rfl, rfl⟩
        go_wp2_with fail
        refine G3.out.mono ?_
        rintro e w' ⟨rfl, rfl⟩
        go_wp2
        go_ret
        exact ⟨rfl, hB⟩
    case neg =>
      have g2 := q2.out l1 m1
      rw [dec_no t2] at g2
      have G2 := Lib.hid g2
      rw [dec_no (by omega)]
      clear g2 t2 k1
      go_enter Try.func12, Try.ntmps12
      go_wp2_with fail
      refine G1.out.mono ?_
      rintro e w' ⟨rfl, rfl⟩
      go_wp2_with fail
      refine G2.out.mono ?_
      rintro e w' ⟨rfl, rfl⟩
      go_wp2
      go_ret
      exact ⟨rfl, hB⟩
  case neg =>
    have g1 := q1.out left hl
    rw [dec_no t1] at g1
    have G1 := Lib.hid g1
    rw [dec_no (by omega)]
    clear g1 t1
    go_enter Try.func12, Try.ntmps12
    go_wp2_with fail
    refine G1.out.mono ?_
    rintro e w' ⟨rfl, rfl⟩
    go_wp2
    go_ret
    exact ⟨rfl, hB⟩

theorem szL_mem {α : Type} {sz : α → Nat} : ∀ (xs : List α) (x : α), x ∈ xs → sz x ≤ szL sz xs := by
  intro xs
  induction xs with
  | nil => intro x h; cases h
  | cons y xs ih =>
    intro x h
    simp only [szL, List.map_cons, List.sum_cons] at ih ⊢
    rcases List.mem_cons.1 h with rfl | h
    · omega
    · have := ih x h; omega
theorem szL_lenP (xs : List (List (Int × Int))) : szL lenP xs = 2 * szL lenA xs := by
  induction xs with
  | nil => rfl
  | cons y xs ih =>
    simp only [szL, List.map_cons, List.sum_cons] at ih ⊢
    rw [ih, lenP, lenA]
    omega
theorem szL_le {α : Type} {f g : α → Nat} (h : ∀ x, f x ≤ g x) (xs : List α) : szL f xs ≤ szL g xs := by
  induction xs with
  | nil => exact Nat.le_refl _
  | cons y xs ih =>
    simp only [szL, List.map_cons, List.sum_cons] at ih ⊢
    have := h y
    omega
/-- What is not too much is within all bounds. -/
theorem bd_of_cnt {c : Ck} (h : cntC c ≤ 1048576) : BdC c := by
  have h' : c.accept.length + ((c.call.length + szL lenA c.call) + ((c.ret.length + szL cnt2 c.ret) + (c.inner.length + szL lenA c.inner))) ≤ 1048576 := h
  refine ⟨by unfold Bd1; omega, ⟨by omega, fun x hx => ?_⟩, ⟨by omega, fun x hx => ?_⟩, ⟨by omega, fun x hx => ?_⟩, ?_⟩
  · have m := szL_mem (sz := lenA) _ _ hx
    have e : lenA x = x.length := rfl
    unfold Bd1
    omega
  · have m := szL_mem (sz := cnt2) _ _ hx
    have e : cnt2 x = x.length + szL lenA x := rfl
    refine ⟨by omega, fun y hy => ?_⟩
    have m2 := szL_mem (sz := lenA) _ _ hy
    have e2 : lenA y = y.length := rfl
    unfold Bd1
    omega
  · have m := szL_mem (sz := lenA) _ _ hx
    have e : lenA x = x.length := rfl
    unfold Bd1
    omega
  · have h1 : szL (szL lenI) c.ret ≤ szL cnt2 c.ret := szL_le (fun x => show szL lenI x ≤ cnt2 x from Nat.le_add_left _ _) _
    have h2 : szL lenI c.inner = szL lenA c.inner := rfl
    have h3 := szL_lenP c.call
    unfold szC
    omega

end Go.Proofs.Yticmekdfdilcpaa
