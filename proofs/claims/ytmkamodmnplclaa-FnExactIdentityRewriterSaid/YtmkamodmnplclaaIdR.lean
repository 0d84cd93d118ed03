/- IdentityRewriter, of the model and of the program. -/
import Derived.Test.YtmkamodmnplclaaPlRS
import Derived.Test.YtmkamodmnplclaaWithR
namespace Go.Proofs.Ytmkamodmnplclaa
open Go.RowKit
set_option linter.unusedVariables false

abbrev identityRw : Rw := plainRw 1 1
theorem identity_bd : BdRw identityRw := plainRw_bd (by omega) (by omega)
theorem nil_opts (w : World) (seq : Nat → Rw) : OptsC w 0 (.slice none 0 0) seq := ⟨_, _, rfl, fun i hi => by omega⟩
set_option maxHeartbeats 6400000 in
set_option maxRecDepth 100000 in
theorem spec_IdentityRewriter (w : World) : Calls Try.prog 17 #[] w (NewPost RwE identityRw w) := by
  have H : Hid (∀ W, Calls Try.prog 44 #[.int .i64 1, .int .i64 1] W (NewPost RwE identityRw W)) := fun W => spec_plainRw 1 1 W (by omega) (by omega)
  obtain ⟨c9, hc9⟩ : ∃ c, c = identityRw := ⟨_, rfl⟩
  rw [← hc9] at H ⊢
  clear hc9
  have hBr := (Below.refl w.heap.size w).alloc (Nat.le_refl _) (.cells #[.int .i64 0, .int .i64 0, .slice none 0 0, .slice none 0 0, .slice none 0 0] 36)
  have hres := Bx.new w 36 #[.int .i64 0, .int .i64 0, .slice none 0 0, .slice none 0 0, .slice none 0 0]
  obtain ⟨Wr, hWr⟩ : ∃ Wr, Wr = w.alloc (.cells #[.int .i64 0, .int .i64 0, .slice none 0 0, .slice none 0 0, .slice none 0 0] 36) := ⟨_, rfl⟩
  rw [← hWr] at hBr hres
  have HR := Lib.hid (And.intro hBr (And.intro hres.lt hres))
  have hml : w.heap.size < Wr.heap.size := hres.lt
  have HWr := Lib.hid hWr
  clear hBr hres hWr
  go_enter Try.func17, Try.ntmps17
  go_wp2_with fail
  rw [← HWr.out]
  refine (H.out _).mono ?_
  rintro e w1 ⟨v1, bs1, rfl, E1, hb1⟩
  obtain ⟨A0, n0, k0, A1, n1, k1, A2, n2, k2, rfl⟩ := E1.form
  have xr := HR.out.2.2.same (hb1.block _ HR.out.2.1)
  obtain ⟨r0, r1, r2, r3, r4, rl⟩ := id xr.all5
  have q0 := xr.frozen 0
  have q1 := xr.frozen 1
  have q2 := xr.frozen 2
  have q3 := xr.frozen 3
  have q4 := xr.frozen 4
  have Hf := Lib.hid (And.intro hb1 E1)
  obtain ⟨s0, hs0⟩ : ∃ x, x = c9.stack := ⟨_, rfl⟩
  obtain ⟨s1, hs1⟩ : ∃ x, x = c9.start := ⟨_, rfl⟩
  rw [← hs0, ← hs1]
  have Hs := Lib.hid (And.intro hs0 hs1)
  clear E1 hb1 xr hs0 hs1
  go_wp2
  obtain ⟨e0, e1⟩ := Hs.out
  have hE := Hf.out.2
  rw [← e0, ← e1] at hE
  obtain ⟨x5, hF, hBf⟩ := rw_home (x0 := .int .i64 s0) (x1 := .int .i64 s1) (x2 := .slice A0 n0 k0) (x3 := .slice A1 n1 k1) (x4 := .slice A2 n2 k2) (Nat.le_refl _) HR.out.1 HR.out.2.1 HR.out.2.2 Hf.out.1 hE
  have f0 := x5.cell 0 _ rfl
  have f1 := x5.cell 1 _ rfl
  have f2 := x5.cell 2 _ rfl
  have f3 := x5.cell 3 _ rfl
  have f4 := x5.cell 4 _ rfl
  unfold set5 at f0 f1 f2 f3 f4 hF hBf
  exact bodyPost_ret (v := .agg #[.int .i64 s0, .int .i64 s1, .slice A0 n0 k0, .slice A1 n1 k1, .slice A2 n2 k2]) (by simp [results, Try.results17, go_sem, f0, f1, f2, f3, f4]) rfl ⟨_, _, rfl, hF, hBf⟩
set_option maxHeartbeats 6400000 in
set_option maxRecDepth 100000 in
theorem impl_IdentityRewriter (w : World) : Calls Try.prog 18 #[] w (NewPost RwE identityRw w) := by
  have H : Hid (∀ W, Calls Try.prog 45 #[.int .i64 1, .int .i64 1, .slice none 0 0] W (NewPost RwE identityRw W)) := fun W => impl_with 1 1 0 (fun _ => plainRw 1 1) _ W (by omega) (.inl rfl) (by omega) rfl (nil_opts W _)
  obtain ⟨c9, hc9⟩ : ∃ c, c = identityRw := ⟨_, rfl⟩
  rw [← hc9] at H ⊢
  clear hc9
  have hBr := (Below.refl w.heap.size w).alloc (Nat.le_refl _) (.cells #[.int .i64 0, .int .i64 0, .slice none 0 0, .slice none 0 0, .slice none 0 0] 36)
  have hres := Bx.new w 36 #[.int .i64 0, .int .i64 0, .slice none 0 0, .slice none 0 0, .slice none 0 0]
  obtain ⟨Wr, hWr⟩ : ∃ Wr, Wr = w.alloc (.cells #[.int .i64 0, .int .i64 0, .slice none 0 0, .slice none 0 0, .slice none 0 0] 36) := ⟨_, rfl⟩
  rw [← hWr] at hBr hres
  have HR := Lib.hid (And.intro hBr (And.intro hres.lt hres))
  have hml : w.heap.size < Wr.heap.size := hres.lt
  have HWr := Lib.hid hWr
  clear hBr hres hWr
  go_enter Try.func18, Try.ntmps18
  go_wp2_with fail
  rw [← HWr.out]
  refine (H.out _).mono ?_
  rintro e w1 ⟨v1, bs1, rfl, E1, hb1⟩
  obtain ⟨A0, n0, k0, A1, n1, k1, A2, n2, k2, rfl⟩ := E1.form
  have xr := HR.out.2.2.same (hb1.block _ HR.out.2.1)
  obtain ⟨r0, r1, r2, r3, r4, rl⟩ := id xr.all5
  have q0 := xr.frozen 0
  have q1 := xr.frozen 1
  have q2 := xr.frozen 2
  have q3 := xr.frozen 3
  have q4 := xr.frozen 4
  have Hf := Lib.hid (And.intro hb1 E1)
  obtain ⟨s0, hs0⟩ : ∃ x, x = c9.stack := ⟨_, rfl⟩
  obtain ⟨s1, hs1⟩ : ∃ x, x = c9.start := ⟨_, rfl⟩
  rw [← hs0, ← hs1]
  have Hs := Lib.hid (And.intro hs0 hs1)
  clear E1 hb1 xr hs0 hs1
  go_wp2
  obtain ⟨e0, e1⟩ := Hs.out
  have hE := Hf.out.2
  rw [← e0, ← e1] at hE
  obtain ⟨x5, hF, hBf⟩ := rw_home (x0 := .int .i64 s0) (x1 := .int .i64 s1) (x2 := .slice A0 n0 k0) (x3 := .slice A1 n1 k1) (x4 := .slice A2 n2 k2) (Nat.le_refl _) HR.out.1 HR.out.2.1 HR.out.2.2 Hf.out.1 hE
  have f0 := x5.cell 0 _ rfl
  have f1 := x5.cell 1 _ rfl
  have f2 := x5.cell 2 _ rfl
  have f3 := x5.cell 3 _ rfl
  have f4 := x5.cell 4 _ rfl
  unfold set5 at f0 f1 f2 f3 f4 hF hBf
  exact bodyPost_ret (v := .agg #[.int .i64 s0, .int .i64 s1, .slice A0 n0 k0, .slice A1 n1 k1, .slice A2 n2 k2]) (by simp [results, Try.results18, go_sem, f0, f1, f2, f3, f4]) rfl ⟨_, _, rfl, hF, hBf⟩
end Go.Proofs.Ytmkamodmnplclaa
