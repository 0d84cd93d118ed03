/- RenameRewriter of the model, where the symbols are none. -/
import Derived.Test.YtmkamodmnplclaaKnRenS
namespace Go.Proofs.Ytmkamodmnplclaa
open Go.RowKit
set_option linter.unusedVariables false

set_option maxHeartbeats 6400000 in
set_option maxRecDepth 100000 in
theorem spec_Rename_no0 (t : ByteArray) (w : World) (h : ¬ t.size = 6) : Calls Try.prog 30 #[.string t] w (PostR RwE ⟨0, 0, [], [], []⟩ 2 w) := by
  have hd : ((t.size : Int) != 6) = true := by simp only [bne_iff_ne]; omega
  have hi : ¬ ((t.size : Int) = 6) := by omega
  clear h
  have hBr := (Below.refl w.heap.size w).alloc (Nat.le_refl _) (.cells #[.int .i64 0, .int .i64 0, .slice none 0 0, .slice none 0 0, .slice none 0 0] 36)
  have hres := Bx.new w 36 #[.int .i64 0, .int .i64 0, .slice none 0 0, .slice none 0 0, .slice none 0 0]
  obtain ⟨Wr, hWr⟩ : ∃ Wr, Wr = w.alloc (.cells #[.int .i64 0, .int .i64 0, .slice none 0 0, .slice none 0 0, .slice none 0 0] 36) := ⟨_, rfl⟩
  rw [← hWr] at hBr hres
  have HR := Lib.hid (And.intro hBr (And.intro hres.lt hres))
  have hml : w.heap.size < Wr.heap.size := hres.lt
  have HWr := Lib.hid hWr
  clear hBr hres hWr
  go_enter Try.func30, Try.ntmps30
  go_upto_region 2 with fail
  rw [← HWr.out]
  obtain ⟨w1, hw1⟩ : ∃ x, x = Wr := ⟨_, rfl⟩
  have hbw : Below Wr.heap.size Wr w1 := by rw [hw1]; exact Below.refl _ _
  rw [← hw1]
  clear hw1
  have xr := HR.out.2.2.same (hbw.block _ HR.out.2.1)
  obtain ⟨r0, r1, r2, r3, r4, rl⟩ := id xr.all5
  have q0 := xr.frozen 0
  have q1 := xr.frozen 1
  have q2 := xr.frozen 2
  have q3 := xr.frozen 3
  have q4 := xr.frozen 4
  have Hf := Lib.hid hbw
  clear xr hbw
  go_wp2
  obtain ⟨x5, hF, hBf⟩ := rw_home (x0 := .int .i64 0) (x1 := .int .i64 0) (x2 := .slice none 0 0) (x3 := .slice none 0 0) (x4 := .slice none 0 0) (Nat.le_refl _) HR.out.1 HR.out.2.1 HR.out.2.2 Hf.out (nil_rw _ _)
  have f0 := x5.cell 0 _ rfl
  have f1 := x5.cell 1 _ rfl
  have f2 := x5.cell 2 _ rfl
  have f3 := x5.cell 3 _ rfl
  have f4 := x5.cell 4 _ rfl
  unfold set5 at f0 f1 f2 f3 f4 hF hBf
  exact bodyPost_ret (v := .tuple #[.agg #[.int .i64 0, .int .i64 0, .slice none 0 0, .slice none 0 0, .slice none 0 0], .int .i64 2]) (by simp [results, Try.results30, go_sem, f0, f1, f2, f3, f4]) rfl ⟨_, _, rfl, rw_base (Nat.zero_le _) hF, hBf⟩
set_option maxHeartbeats 6400000 in
set_option maxRecDepth 100000 in
theorem spec_Rename_no1 (t : ByteArray) (w : World) (hz : t.size = 6) (h : ¬ IsW t) : Calls Try.prog 30 #[.string t] w (PostR RwE ⟨0, 0, [], [], []⟩ 2 w) := by
  have HOK := Lib.hid fun W => spec_ok_no t W (by omega) h
  clear h
  have hBr := (Below.refl w.heap.size w).alloc (Nat.le_refl _) (.cells #[.int .i64 0, .int .i64 0, .slice none 0 0, .slice none 0 0, .slice none 0 0] 36)
  have hres := Bx.new w 36 #[.int .i64 0, .int .i64 0, .slice none 0 0, .slice none 0 0, .slice none 0 0]
  obtain ⟨Wr, hWr⟩ : ∃ Wr, Wr = w.alloc (.cells #[.int .i64 0, .int .i64 0, .slice none 0 0, .slice none 0 0, .slice none 0 0] 36) := ⟨_, rfl⟩
  rw [← hWr] at hBr hres
  have HR := Lib.hid (And.intro hBr (And.intro hres.lt hres))
  have hml : w.heap.size < Wr.heap.size := hres.lt
  have HWr := Lib.hid hWr
  clear hBr hres hWr
  go_enter Try.func30, Try.ntmps30
  go_upto_region 2 with (go_at_call 62; refine (HOK.out _).mono ?_; rintro e w' ⟨rfl, rfl⟩)
  rw [← HWr.out]
  obtain ⟨w1, hw1⟩ : ∃ x, x = Wr := ⟨_, rfl⟩
  have hbw : Below Wr.heap.size Wr w1 := by rw [hw1]; exact Below.refl _ _
  rw [← hw1]
  clear hw1
  have xr := HR.out.2.2.same (hbw.block _ HR.out.2.1)
  obtain ⟨r0, r1, r2, r3, r4, rl⟩ := id xr.all5
  have q0 := xr.frozen 0
  have q1 := xr.frozen 1
  have q2 := xr.frozen 2
  have q3 := xr.frozen 3
  have q4 := xr.frozen 4
  have Hf := Lib.hid hbw
  clear xr hbw
  go_wp2
  obtain ⟨x5, hF, hBf⟩ := rw_home (x0 := .int .i64 0) (x1 := .int .i64 0) (x2 := .slice none 0 0) (x3 := .slice none 0 0) (x4 := .slice none 0 0) (Nat.le_refl _) HR.out.1 HR.out.2.1 HR.out.2.2 Hf.out (nil_rw _ _)
  have f0 := x5.cell 0 _ rfl
  have f1 := x5.cell 1 _ rfl
  have f2 := x5.cell 2 _ rfl
  have f3 := x5.cell 3 _ rfl
  have f4 := x5.cell 4 _ rfl
  unfold set5 at f0 f1 f2 f3 f4 hF hBf
  exact bodyPost_ret (v := .tuple #[.agg #[.int .i64 0, .int .i64 0, .slice none 0 0, .slice none 0 0, .slice none 0 0], .int .i64 2]) (by simp [results, Try.results30, go_sem, f0, f1, f2, f3, f4]) rfl ⟨_, _, rfl, rw_base (Nat.zero_le _) hF, hBf⟩
set_option maxHeartbeats 6400000 in
set_option maxRecDepth 100000 in
theorem spec_Rename_no2 (x0 x1 x2 x3 x4 x5 : UInt8) (w : World) (hW : IsW ⟨#[x0, x1, x2, x3, x4, x5]⟩)  (hc0 : callB x0.toNat = false) : Calls Try.prog 30 #[.string ⟨#[x0, x1, x2, x3, x4, x5]⟩] w (PostR RwE ⟨0, 0, [], [], []⟩ 2 w) := by
  have HOK := Lib.hid fun W => spec_ok_yes _ W hW
  obtain ⟨s, hs⟩ : ∃ s, s = (⟨#[x0, x1, x2, x3, x4, x5]⟩ : ByteArray) := ⟨_, rfl⟩
  have hz : s.size = 6 := by rw [hs]; rfl
  have g0 : ∀ h : 0 < s.size, s[0]'h = x0 := by rw [hs]; exact fun _ => rfl
  have g1 : ∀ h : 1 < s.size, s[1]'h = x1 := by rw [hs]; exact fun _ => rfl
  have g2 : ∀ h : 2 < s.size, s[2]'h = x2 := by rw [hs]; exact fun _ => rfl
  have g3 : ∀ h : 3 < s.size, s[3]'h = x3 := by rw [hs]; exact fun _ => rfl
  have g4 : ∀ h : 4 < s.size, s[4]'h = x4 := by rw [hs]; exact fun _ => rfl
  have g5 : ∀ h : 5 < s.size, s[5]'h = x5 := by rw [hs]; exact fun _ => rfl
  rw [← hs] at HOK ⊢
  clear hs hW
  have hBr := (Below.refl w.heap.size w).alloc (Nat.le_refl _) (.cells #[.int .i64 0, .int .i64 0, .slice none 0 0, .slice none 0 0, .slice none 0 0] 36)
  have hres := Bx.new w 36 #[.int .i64 0, .int .i64 0, .slice none 0 0, .slice none 0 0, .slice none 0 0]
  obtain ⟨Wr, hWr⟩ : ∃ Wr, Wr = w.alloc (.cells #[.int .i64 0, .int .i64 0, .slice none 0 0, .slice none 0 0, .slice none 0 0] 36) := ⟨_, rfl⟩
  rw [← hWr] at hBr hres
  have HR := Lib.hid (And.intro hBr (And.intro hres.lt hres))
  have hml : w.heap.size < Wr.heap.size := hres.lt
  have HWr := Lib.hid hWr
  clear hBr hres hWr
  go_enter Try.func30, Try.ntmps30
  go_upto_region 2 with (first | (go_at_call 62; refine (HOK.out _).mono ?_; rintro e w' ⟨rfl, rfl⟩) | (go_at_call 63; refine (spec_call _ _).mono ?_; rintro e w' ⟨rfl, rfl⟩; simp only [hc0]))
  rw [← HWr.out]
  obtain ⟨w1, hw1⟩ : ∃ x, x = Wr := ⟨_, rfl⟩
  have hbw : Below Wr.heap.size Wr w1 := by rw [hw1]; exact Below.refl _ _
  rw [← hw1]
  clear hw1
  have xr := HR.out.2.2.same (hbw.block _ HR.out.2.1)
  obtain ⟨r0, r1, r2, r3, r4, rl⟩ := id xr.all5
  have q0 := xr.frozen 0
  have q1 := xr.frozen 1
  have q2 := xr.frozen 2
  have q3 := xr.frozen 3
  have q4 := xr.frozen 4
  have Hf := Lib.hid hbw
  clear xr hbw
  go_wp2
  obtain ⟨x5, hF, hBf⟩ := rw_home (x0 := .int .i64 0) (x1 := .int .i64 0) (x2 := .slice none 0 0) (x3 := .slice none 0 0) (x4 := .slice none 0 0) (Nat.le_refl _) HR.out.1 HR.out.2.1 HR.out.2.2 Hf.out (nil_rw _ _)
  have f0 := x5.cell 0 _ rfl
  have f1 := x5.cell 1 _ rfl
  have f2 := x5.cell 2 _ rfl
  have f3 := x5.cell 3 _ rfl
  have f4 := x5.cell 4 _ rfl
  unfold set5 at f0 f1 f2 f3 f4 hF hBf
  exact bodyPost_ret (v := .tuple #[.agg #[.int .i64 0, .int .i64 0, .slice none 0 0, .slice none 0 0, .slice none 0 0], .int .i64 2]) (by simp [results, Try.results30, go_sem, f0, f1, f2, f3, f4]) rfl ⟨_, _, rfl, rw_base (Nat.zero_le _) hF, hBf⟩
set_option maxHeartbeats 6400000 in
set_option maxRecDepth 100000 in
theorem spec_Rename_no3 (x0 x1 x2 x3 x4 x5 : UInt8) (w : World) (hW : IsW ⟨#[x0, x1, x2, x3, x4, x5]⟩) (hc0 : callB x0.toNat = true) (hc1 : callB x1.toNat = false) : Calls Try.prog 30 #[.string ⟨#[x0, x1, x2, x3, x4, x5]⟩] w (PostR RwE ⟨0, 0, [], [], []⟩ 2 w) := by
  have HOK := Lib.hid fun W => spec_ok_yes _ W hW
  obtain ⟨s, hs⟩ : ∃ s, s = (⟨#[x0, x1, x2, x3, x4, x5]⟩ : ByteArray) := ⟨_, rfl⟩
  have hz : s.size = 6 := by rw [hs]; rfl
  have g0 : ∀ h : 0 < s.size, s[0]'h = x0 := by rw [hs]; exact fun _ => rfl
  have g1 : ∀ h : 1 < s.size, s[1]'h = x1 := by rw [hs]; exact fun _ => rfl
  have g2 : ∀ h : 2 < s.size, s[2]'h = x2 := by rw [hs]; exact fun _ => rfl
  have g3 : ∀ h : 3 < s.size, s[3]'h = x3 := by rw [hs]; exact fun _ => rfl
  have g4 : ∀ h : 4 < s.size, s[4]'h = x4 := by rw [hs]; exact fun _ => rfl
  have g5 : ∀ h : 5 < s.size, s[5]'h = x5 := by rw [hs]; exact fun _ => rfl
  rw [← hs] at HOK ⊢
  clear hs hW
  have hBr := (Below.refl w.heap.size w).alloc (Nat.le_refl _) (.cells #[.int .i64 0, .int .i64 0, .slice none 0 0, .slice none 0 0, .slice none 0 0] 36)
  have hres := Bx.new w 36 #[.int .i64 0, .int .i64 0, .slice none 0 0, .slice none 0 0, .slice none 0 0]
  obtain ⟨Wr, hWr⟩ : ∃ Wr, Wr = w.alloc (.cells #[.int .i64 0, .int .i64 0, .slice none 0 0, .slice none 0 0, .slice none 0 0] 36) := ⟨_, rfl⟩
  rw [← hWr] at hBr hres
  have HR := Lib.hid (And.intro hBr (And.intro hres.lt hres))
  have hml : w.heap.size < Wr.heap.size := hres.lt
  have HWr := Lib.hid hWr
  clear hBr hres hWr
  go_enter Try.func30, Try.ntmps30
  go_upto_region 2 with (first | (go_at_call 62; refine (HOK.out _).mono ?_; rintro e w' ⟨rfl, rfl⟩) | (go_at_call 63; refine (spec_call _ _).mono ?_; rintro e w' ⟨rfl, rfl⟩; simp only [hc0, hc1]))
  rw [← HWr.out]
  obtain ⟨w1, hw1⟩ : ∃ x, x = Wr := ⟨_, rfl⟩
  have hbw : Below Wr.heap.size Wr w1 := by rw [hw1]; exact Below.refl _ _
  rw [← hw1]
  clear hw1
  have xr := HR.out.2.2.same (hbw.block _ HR.out.2.1)
  obtain ⟨r0, r1, r2, r3, r4, rl⟩ := id xr.all5
  have q0 := xr.frozen 0
  have q1 := xr.frozen 1
  have q2 := xr.frozen 2
  have q3 := xr.frozen 3
  have q4 := xr.frozen 4
  have Hf := Lib.hid hbw
  clear xr hbw
  go_wp2
  obtain ⟨x5, hF, hBf⟩ := rw_home (x0 := .int .i64 0) (x1 := .int .i64 0) (x2 := .slice none 0 0) (x3 := .slice none 0 0) (x4 := .slice none 0 0) (Nat.le_refl _) HR.out.1 HR.out.2.1 HR.out.2.2 Hf.out (nil_rw _ _)
  have f0 := x5.cell 0 _ rfl
  have f1 := x5.cell 1 _ rfl
  have f2 := x5.cell 2 _ rfl
  have f3 := x5.cell 3 _ rfl
  have f4 := x5.cell 4 _ rfl
  unfold set5 at f0 f1 f2 f3 f4 hF hBf
  exact bodyPost_ret (v := .tuple #[.agg #[.int .i64 0, .int .i64 0, .slice none 0 0, .slice none 0 0, .slice none 0 0], .int .i64 2]) (by simp [results, Try.results30, go_sem, f0, f1, f2, f3, f4]) rfl ⟨_, _, rfl, rw_base (Nat.zero_le _) hF, hBf⟩
set_option maxHeartbeats 6400000 in
set_option maxRecDepth 100000 in
theorem spec_Rename_no4 (x0 x1 x2 x3 x4 x5 : UInt8) (w : World) (hW : IsW ⟨#[x0, x1, x2, x3, x4, x5]⟩) (hc0 : callB x0.toNat = true) (hc1 : callB x1.toNat = true) (hr2 : retB x2.toNat = false) : Calls Try.prog 30 #[.string ⟨#[x0, x1, x2, x3, x4, x5]⟩] w (PostR RwE ⟨0, 0, [], [], []⟩ 2 w) := by
  have HOK := Lib.hid fun W => spec_ok_yes _ W hW
  obtain ⟨s, hs⟩ : ∃ s, s = (⟨#[x0, x1, x2, x3, x4, x5]⟩ : ByteArray) := ⟨_, rfl⟩
  have hz : s.size = 6 := by rw [hs]; rfl
  have g0 : ∀ h : 0 < s.size, s[0]'h = x0 := by rw [hs]; exact fun _ => rfl
  have g1 : ∀ h : 1 < s.size, s[1]'h = x1 := by rw [hs]; exact fun _ => rfl
  have g2 : ∀ h : 2 < s.size, s[2]'h = x2 := by rw [hs]; exact fun _ => rfl
  have g3 : ∀ h : 3 < s.size, s[3]'h = x3 := by rw [hs]; exact fun _ => rfl
  have g4 : ∀ h : 4 < s.size, s[4]'h = x4 := by rw [hs]; exact fun _ => rfl
  have g5 : ∀ h : 5 < s.size, s[5]'h = x5 := by rw [hs]; exact fun _ => rfl
  rw [← hs] at HOK ⊢
  clear hs hW
  have hBr := (Below.refl w.heap.size w).alloc (Nat.le_refl _) (.cells #[.int .i64 0, .int .i64 0, .slice none 0 0, .slice none 0 0, .slice none 0 0] 36)
  have hres := Bx.new w 36 #[.int .i64 0, .int .i64 0, .slice none 0 0, .slice none 0 0, .slice none 0 0]
  obtain ⟨Wr, hWr⟩ : ∃ Wr, Wr = w.alloc (.cells #[.int .i64 0, .int .i64 0, .slice none 0 0, .slice none 0 0, .slice none 0 0] 36) := ⟨_, rfl⟩
  rw [← hWr] at hBr hres
  have HR := Lib.hid (And.intro hBr (And.intro hres.lt hres))
  have hml : w.heap.size < Wr.heap.size := hres.lt
  have HWr := Lib.hid hWr
  clear hBr hres hWr
  go_enter Try.func30, Try.ntmps30
  go_upto_region 2 with (first | (go_at_call 62; refine (HOK.out _).mono ?_; rintro e w' ⟨rfl, rfl⟩) | (go_at_call 63; refine (spec_call _ _).mono ?_; rintro e w' ⟨rfl, rfl⟩; simp only [hc0, hc1]) | (go_at_call 64; refine (spec_return _ _).mono ?_; rintro e w' ⟨rfl, rfl⟩; simp only [hr2]))
  rw [← HWr.out]
  obtain ⟨w1, hw1⟩ : ∃ x, x = Wr := ⟨_, rfl⟩
  have hbw : Below Wr.heap.size Wr w1 := by rw [hw1]; exact Below.refl _ _
  rw [← hw1]
  clear hw1
  have xr := HR.out.2.2.same (hbw.block _ HR.out.2.1)
  obtain ⟨r0, r1, r2, r3, r4, rl⟩ := id xr.all5
  have q0 := xr.frozen 0
  have q1 := xr.frozen 1
  have q2 := xr.frozen 2
  have q3 := xr.frozen 3
  have q4 := xr.frozen 4
  have Hf := Lib.hid hbw
  clear xr hbw
  go_wp2
  obtain ⟨x5, hF, hBf⟩ := rw_home (x0 := .int .i64 0) (x1 := .int .i64 0) (x2 := .slice none 0 0) (x3 := .slice none 0 0) (x4 := .slice none 0 0) (Nat.le_refl _) HR.out.1 HR.out.2.1 HR.out.2.2 Hf.out (nil_rw _ _)
  have f0 := x5.cell 0 _ rfl
  have f1 := x5.cell 1 _ rfl
  have f2 := x5.cell 2 _ rfl
  have f3 := x5.cell 3 _ rfl
  have f4 := x5.cell 4 _ rfl
  unfold set5 at f0 f1 f2 f3 f4 hF hBf
  exact bodyPost_ret (v := .tuple #[.agg #[.int .i64 0, .int .i64 0, .slice none 0 0, .slice none 0 0, .slice none 0 0], .int .i64 2]) (by simp [results, Try.results30, go_sem, f0, f1, f2, f3, f4]) rfl ⟨_, _, rfl, rw_base (Nat.zero_le _) hF, hBf⟩
set_option maxHeartbeats 6400000 in
set_option maxRecDepth 100000 in
theorem spec_Rename_no5 (x0 x1 x2 x3 x4 x5 : UInt8) (w : World) (hW : IsW ⟨#[x0, x1, x2, x3, x4, x5]⟩) (hc0 : callB x0.toNat = true) (hc1 : callB x1.toNat = true) (hr2 : retB x2.toNat = true) (hr3 : retB x3.toNat = false) : Calls Try.prog 30 #[.string ⟨#[x0, x1, x2, x3, x4, x5]⟩] w (PostR RwE ⟨0, 0, [], [], []⟩ 2 w) := by
  have HOK := Lib.hid fun W => spec_ok_yes _ W hW
  obtain ⟨s, hs⟩ : ∃ s, s = (⟨#[x0, x1, x2, x3, x4, x5]⟩ : ByteArray) := ⟨_, rfl⟩
  have hz : s.size = 6 := by rw [hs]; rfl
  have g0 : ∀ h : 0 < s.size, s[0]'h = x0 := by rw [hs]; exact fun _ => rfl
  have g1 : ∀ h : 1 < s.size, s[1]'h = x1 := by rw [hs]; exact fun _ => rfl
  have g2 : ∀ h : 2 < s.size, s[2]'h = x2 := by rw [hs]; exact fun _ => rfl
  have g3 : ∀ h : 3 < s.size, s[3]'h = x3 := by rw [hs]; exact fun _ => rfl
  have g4 : ∀ h : 4 < s.size, s[4]'h = x4 := by rw [hs]; exact fun _ => rfl
  have g5 : ∀ h : 5 < s.size, s[5]'h = x5 := by rw [hs]; exact fun _ => rfl
  rw [← hs] at HOK ⊢
  clear hs hW
  have hBr := (Below.refl w.heap.size w).alloc (Nat.le_refl _) (.cells #[.int .i64 0, .int .i64 0, .slice none 0 0, .slice none 0 0, .slice none 0 0] 36)
  have hres := Bx.new w 36 #[.int .i64 0, .int .i64 0, .slice none 0 0, .slice none 0 0, .slice none 0 0]
  obtain ⟨Wr, hWr⟩ : ∃ Wr, Wr = w.alloc (.cells #[.int .i64 0, .int .i64 0, .slice none 0 0, .slice none 0 0, .slice none 0 0] 36) := ⟨_, rfl⟩
  rw [← hWr] at hBr hres
  have HR := Lib.hid (And.intro hBr (And.intro hres.lt hres))
  have hml : w.heap.size < Wr.heap.size := hres.lt
  have HWr := Lib.hid hWr
  clear hBr hres hWr
  go_enter Try.func30, Try.ntmps30
  go_upto_region 2 with (first | (go_at_call 62; refine (HOK.out _).mono ?_; rintro e w' ⟨rfl, rfl⟩) | (go_at_call 63; refine (spec_call _ _).mono ?_; rintro e w' ⟨rfl, rfl⟩; simp only [hc0, hc1]) | (go_at_call 64; refine (spec_return _ _).mono ?_; rintro e w' ⟨rfl, rfl⟩; simp only [hr2, hr3]))
  rw [← HWr.out]
  obtain ⟨w1, hw1⟩ : ∃ x, x = Wr := ⟨_, rfl⟩
  have hbw : Below Wr.heap.size Wr w1 := by rw [hw1]; exact Below.refl _ _
  rw [← hw1]
  clear hw1
  have xr := HR.out.2.2.same (hbw.block _ HR.out.2.1)
  obtain ⟨r0, r1, r2, r3, r4, rl⟩ := id xr.all5
  have q0 := xr.frozen 0
  have q1 := xr.frozen 1
  have q2 := xr.frozen 2
  have q3 := xr.frozen 3
  have q4 := xr.frozen 4
  have Hf := Lib.hid hbw
  clear xr hbw
  go_wp2
  obtain ⟨x5, hF, hBf⟩ := rw_home (x0 := .int .i64 0) (x1 := .int .i64 0) (x2 := .slice none 0 0) (x3 := .slice none 0 0) (x4 := .slice none 0 0) (Nat.le_refl _) HR.out.1 HR.out.2.1 HR.out.2.2 Hf.out (nil_rw _ _)
  have f0 := x5.cell 0 _ rfl
  have f1 := x5.cell 1 _ rfl
  have f2 := x5.cell 2 _ rfl
  have f3 := x5.cell 3 _ rfl
  have f4 := x5.cell 4 _ rfl
  unfold set5 at f0 f1 f2 f3 f4 hF hBf
  exact bodyPost_ret (v := .tuple #[.agg #[.int .i64 0, .int .i64 0, .slice none 0 0, .slice none 0 0, .slice none 0 0], .int .i64 2]) (by simp [results, Try.results30, go_sem, f0, f1, f2, f3, f4]) rfl ⟨_, _, rfl, rw_base (Nat.zero_le _) hF, hBf⟩
set_option maxHeartbeats 6400000 in
set_option maxRecDepth 100000 in
theorem spec_Rename_no6 (x0 x1 x2 x3 x4 x5 : UInt8) (w : World) (hW : IsW ⟨#[x0, x1, x2, x3, x4, x5]⟩) (hc0 : callB x0.toNat = true) (hc1 : callB x1.toNat = true) (hr2 : retB x2.toNat = true) (hr3 : retB x3.toNat = true) (h4 : x4.toNat < 97) : Calls Try.prog 30 #[.string ⟨#[x0, x1, x2, x3, x4, x5]⟩] w (PostR RwE ⟨0, 0, [], [], []⟩ 2 w) := by
  have HOK := Lib.hid fun W => spec_ok_yes _ W hW
  obtain ⟨s, hs⟩ : ∃ s, s = (⟨#[x0, x1, x2, x3, x4, x5]⟩ : ByteArray) := ⟨_, rfl⟩
  have hz : s.size = 6 := by rw [hs]; rfl
  have g0 : ∀ h : 0 < s.size, s[0]'h = x0 := by rw [hs]; exact fun _ => rfl
  have g1 : ∀ h : 1 < s.size, s[1]'h = x1 := by rw [hs]; exact fun _ => rfl
  have g2 : ∀ h : 2 < s.size, s[2]'h = x2 := by rw [hs]; exact fun _ => rfl
  have g3 : ∀ h : 3 < s.size, s[3]'h = x3 := by rw [hs]; exact fun _ => rfl
  have g4 : ∀ h : 4 < s.size, s[4]'h = x4 := by rw [hs]; exact fun _ => rfl
  have g5 : ∀ h : 5 < s.size, s[5]'h = x5 := by rw [hs]; exact fun _ => rfl
  have k4 : ((x4.toNat : Int) < 97) := by omega
  rw [← hs] at HOK ⊢
  clear hs hW
  have hBr := (Below.refl w.heap.size w).alloc (Nat.le_refl _) (.cells #[.int .i64 0, .int .i64 0, .slice none 0 0, .slice none 0 0, .slice none 0 0] 36)
  have hres := Bx.new w 36 #[.int .i64 0, .int .i64 0, .slice none 0 0, .slice none 0 0, .slice none 0 0]
  obtain ⟨Wr, hWr⟩ : ∃ Wr, Wr = w.alloc (.cells #[.int .i64 0, .int .i64 0, .slice none 0 0, .slice none 0 0, .slice none 0 0] 36) := ⟨_, rfl⟩
  rw [← hWr] at hBr hres
  have HR := Lib.hid (And.intro hBr (And.intro hres.lt hres))
  have hml : w.heap.size < Wr.heap.size := hres.lt
  have HWr := Lib.hid hWr
  clear hBr hres hWr
  go_enter Try.func30, Try.ntmps30
  go_upto_region 2 with (first | (go_at_call 62; refine (HOK.out _).mono ?_; rintro e w' ⟨rfl, rfl⟩) | (go_at_call 63; refine (spec_call _ _).mono ?_; rintro e w' ⟨rfl, rfl⟩; simp only [hc0, hc1]) | (go_at_call 64; refine (spec_return _ _).mono ?_; rintro e w' ⟨rfl, rfl⟩; simp only [hr2, hr3]))
  rw [← HWr.out]
  obtain ⟨w1, hw1⟩ : ∃ x, x = Wr := ⟨_, rfl⟩
  have hbw : Below Wr.heap.size Wr w1 := by rw [hw1]; exact Below.refl _ _
  rw [← hw1]
  clear hw1
  have xr := HR.out.2.2.same (hbw.block _ HR.out.2.1)
  obtain ⟨r0, r1, r2, r3, r4, rl⟩ := id xr.all5
  have q0 := xr.frozen 0
  have q1 := xr.frozen 1
  have q2 := xr.frozen 2
  have q3 := xr.frozen 3
  have q4 := xr.frozen 4
  have Hf := Lib.hid hbw
  clear xr hbw
  go_wp2
  obtain ⟨x5, hF, hBf⟩ := rw_home (x0 := .int .i64 0) (x1 := .int .i64 0) (x2 := .slice none 0 0) (x3 := .slice none 0 0) (x4 := .slice none 0 0) (Nat.le_refl _) HR.out.1 HR.out.2.1 HR.out.2.2 Hf.out (nil_rw _ _)
  have f0 := x5.cell 0 _ rfl
  have f1 := x5.cell 1 _ rfl
  have f2 := x5.cell 2 _ rfl
  have f3 := x5.cell 3 _ rfl
  have f4 := x5.cell 4 _ rfl
  unfold set5 at f0 f1 f2 f3 f4 hF hBf
  exact bodyPost_ret (v := .tuple #[.agg #[.int .i64 0, .int .i64 0, .slice none 0 0, .slice none 0 0, .slice none 0 0], .int .i64 2]) (by simp [results, Try.results30, go_sem, f0, f1, f2, f3, f4]) rfl ⟨_, _, rfl, rw_base (Nat.zero_le _) hF, hBf⟩
set_option maxHeartbeats 6400000 in
set_option maxRecDepth 100000 in
theorem spec_Rename_no7 (x0 x1 x2 x3 x4 x5 : UInt8) (w : World) (hW : IsW ⟨#[x0, x1, x2, x3, x4, x5]⟩) (hc0 : callB x0.toNat = true) (hc1 : callB x1.toNat = true) (hr2 : retB x2.toNat = true) (hr3 : retB x3.toNat = true) (h4 : ¬ x4.toNat < 97) (h5 : x5.toNat < 97) : Calls Try.prog 30 #[.string ⟨#[x0, x1, x2, x3, x4, x5]⟩] w (PostR RwE ⟨0, 0, [], [], []⟩ 2 w) := by
  have HOK := Lib.hid fun W => spec_ok_yes _ W hW
  obtain ⟨s, hs⟩ : ∃ s, s = (⟨#[x0, x1, x2, x3, x4, x5]⟩ : ByteArray) := ⟨_, rfl⟩
  have hz : s.size = 6 := by rw [hs]; rfl
  have g0 : ∀ h : 0 < s.size, s[0]'h = x0 := by rw [hs]; exact fun _ => rfl
  have g1 : ∀ h : 1 < s.size, s[1]'h = x1 := by rw [hs]; exact fun _ => rfl
  have g2 : ∀ h : 2 < s.size, s[2]'h = x2 := by rw [hs]; exact fun _ => rfl
  have g3 : ∀ h : 3 < s.size, s[3]'h = x3 := by rw [hs]; exact fun _ => rfl
  have g4 : ∀ h : 4 < s.size, s[4]'h = x4 := by rw [hs]; exact fun _ => rfl
  have g5 : ∀ h : 5 < s.size, s[5]'h = x5 := by rw [hs]; exact fun _ => rfl
  have k4 : ¬ ((x4.toNat : Int) < 97) := by omega
  have k5 : ((x5.toNat : Int) < 97) := by omega
  rw [← hs] at HOK ⊢
  clear hs hW
  have hBr := (Below.refl w.heap.size w).alloc (Nat.le_refl _) (.cells #[.int .i64 0, .int .i64 0, .slice none 0 0, .slice none 0 0, .slice none 0 0] 36)
  have hres := Bx.new w 36 #[.int .i64 0, .int .i64 0, .slice none 0 0, .slice none 0 0, .slice none 0 0]
  obtain ⟨Wr, hWr⟩ : ∃ Wr, Wr = w.alloc (.cells #[.int .i64 0, .int .i64 0, .slice none 0 0, .slice none 0 0, .slice none 0 0] 36) := ⟨_, rfl⟩
  rw [← hWr] at hBr hres
  have HR := Lib.hid (And.intro hBr (And.intro hres.lt hres))
  have hml : w.heap.size < Wr.heap.size := hres.lt
  have HWr := Lib.hid hWr
  clear hBr hres hWr
  go_enter Try.func30, Try.ntmps30
  go_upto_region 2 with (first | (go_at_call 62; refine (HOK.out _).mono ?_; rintro e w' ⟨rfl, rfl⟩) | (go_at_call 63; refine (spec_call _ _).mono ?_; rintro e w' ⟨rfl, rfl⟩; simp only [hc0, hc1]) | (go_at_call 64; refine (spec_return _ _).mono ?_; rintro e w' ⟨rfl, rfl⟩; simp only [hr2, hr3]))
  rw [← HWr.out]
  obtain ⟨w1, hw1⟩ : ∃ x, x = Wr := ⟨_, rfl⟩
  have hbw : Below Wr.heap.size Wr w1 := by rw [hw1]; exact Below.refl _ _
  rw [← hw1]
  clear hw1
  have xr := HR.out.2.2.same (hbw.block _ HR.out.2.1)
  obtain ⟨r0, r1, r2, r3, r4, rl⟩ := id xr.all5
  have q0 := xr.frozen 0
  have q1 := xr.frozen 1
  have q2 := xr.frozen 2
  have q3 := xr.frozen 3
  have q4 := xr.frozen 4
  have Hf := Lib.hid hbw
  clear xr hbw
  go_wp2
  obtain ⟨x5, hF, hBf⟩ := rw_home (x0 := .int .i64 0) (x1 := .int .i64 0) (x2 := .slice none 0 0) (x3 := .slice none 0 0) (x4 := .slice none 0 0) (Nat.le_refl _) HR.out.1 HR.out.2.1 HR.out.2.2 Hf.out (nil_rw _ _)
  have f0 := x5.cell 0 _ rfl
  have f1 := x5.cell 1 _ rfl
  have f2 := x5.cell 2 _ rfl
  have f3 := x5.cell 3 _ rfl
  have f4 := x5.cell 4 _ rfl
  unfold set5 at f0 f1 f2 f3 f4 hF hBf
  exact bodyPost_ret (v := .tuple #[.agg #[.int .i64 0, .int .i64 0, .slice none 0 0, .slice none 0 0, .slice none 0 0], .int .i64 2]) (by simp [results, Try.results30, go_sem, f0, f1, f2, f3, f4]) rfl ⟨_, _, rfl, rw_base (Nat.zero_le _) hF, hBf⟩
theorem six_bytes {t : ByteArray} (h : t.size = 6) : ∃ x0 x1 x2 x3 x4 x5, t = ⟨#[x0, x1, x2, x3, x4, x5]⟩ := by
  obtain ⟨⟨l⟩⟩ := t
  have h : l.length = 6 := h
  rcases l with _ | ⟨x0, _ | ⟨x1, _ | ⟨x2, _ | ⟨x3, _ | ⟨x4, _ | ⟨x5, _ | ⟨x6, l⟩⟩⟩⟩⟩⟩⟩ <;> simp at h
  exact ⟨x0, x1, x2, x3, x4, x5, rfl⟩
theorem let_of {x : UInt8} (h : 0 ≤ symNo x.toNat) (h2 : ¬ x.toNat < 97) : x = 97 ∨ x = 98 := by
  have e : ∀ q : UInt8, (x.toNat : Int) = (q.toNat : Int) → x = q := fun q h => UInt8.toNat_inj.1 (by omega)
  rcases sym_cases (x.toNat : Int) with h1 | h1 | h1 | h1 | h1 | h1 | h1
  · omega
  · omega
  · omega
  · omega
  · exact .inl (e 97 h1)
  · exact .inr (e 98 h1)
  · rw [symNo_none h1] at h; omega
theorem spec_Rename_no (t : ByteArray) (w : World) (hs : t.size ≤ 1048576) (h : ¬ ∃ x0 x1 x2 x3 x4 x5, t = ⟨#[x0, x1, x2, x3, x4, x5]⟩ ∧ Ren6 x0 x1 x2 x3 x4 x5) : Calls Try.prog 30 #[.string t] w (PostR RwE ⟨0, 0, [], [], []⟩ 2 w) := by
  by_cases hz : t.size = 6
  case neg => exact spec_Rename_no0 t w hz
  by_cases hW : IsW t
  case neg => exact spec_Rename_no1 t w hz hW
  obtain ⟨x0, x1, x2, x3, x4, x5, rfl⟩ := six_bytes hz
  cases h0 : callB x0.toNat with
  | false => exact spec_Rename_no2 _ _ _ _ _ _ w hW h0
  | true =>
  cases h1 : callB x1.toNat with
  | false => exact spec_Rename_no3 _ _ _ _ _ _ w hW h0 h1
  | true =>
  cases h2 : retB x2.toNat with
  | false => exact spec_Rename_no4 _ _ _ _ _ _ w hW h0 h1 h2
  | true =>
  cases h3 : retB x3.toNat with
  | false => exact spec_Rename_no5 _ _ _ _ _ _ w hW h0 h1 h2 h3
  | true =>
  by_cases h4 : x4.toNat < 97
  case pos => exact spec_Rename_no6 _ _ _ _ _ _ w hW h0 h1 h2 h3 h4
  by_cases h5 : x5.toNat < 97
  case pos => exact spec_Rename_no7 _ _ _ _ _ _ w hW h0 h1 h2 h3 h4 h5
  exact absurd ⟨x0, x1, x2, x3, x4, x5, rfl, ⟨h0, h1, h2, h3, let_of (hW.2 x4 (by simp)) h4, let_of (hW.2 x5 (by simp)) h5⟩⟩ h
end Go.Proofs.Ytmkamodmnplclaa
