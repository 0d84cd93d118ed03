/- productChecker, BothCheckers, EitherCheckers of the program. -/
import Derived.Test.YtfaiifiohomdmaaPairI
import Derived.Test.YtfaiifiohomdmaaVWalk
import Derived.Test.YtfaiifiohomdmaaPosts
import Derived.Test.YtfaiifiohomdmaaPlainM
namespace Go.Proofs.Ytfaiifiohomdmaa
open Go.RowKit
set_option linter.unusedVariables false
theorem ckp_base {b b' : Nat} (hb : b' ≤ b) {w : World} {v : Value} {x : Ck} {bs : List Nat} (h : CkE b w v x bs) : CkE b' w v x bs := by
  obtain ⟨va, vc, vr, vi, b1, b2, b3, b4, rfl, h1, h2, h3, h4, e, hn⟩ := h
  exact ⟨va, vc, vr, vi, b1, b2, b3, b4, rfl, bools_base hb _ _ _ _ h1, pushes2_base hb _ _ _ _ h2, ints3_base hb _ _ _ _ h3, ints2_base hb _ _ _ _ h4, e, hn⟩
set_option maxHeartbeats 6400000 in
set_option maxRecDepth 100000 in
theorem impl_prod_no1 {base base' : Nat} {v v' : Value} {c d : Ck} {bs bs' : List Nat} (fF : Bool → Bool → Bool) (f : FuncId) (w : World) (hcf : ∀ args w, (callFunc f args).run Try.prog w = .ok (.enter f args) w)
    (hf : ∀ x y W, Calls Try.prog f #[.bool x, .bool y] W (TupPost (.bool (fF x y)) W)) (hbc : BdC c) (hbd : BdC d) (hck : CkE base w v c bs) (hdk : CkE base' w v' d bs') (h : okM c = false) :
    Calls Try.prog 54 #[v, v', .func (.func f) #[] #[]] w (PostV CkE nilCk 1 w) := by
  have hck0 := hck
  have hdk0 := hdk
  obtain ⟨va, vc, vr, vi, _, _, _, _, rfl, h1, h2, h3, h4, _, _⟩ := hck
  obtain ⟨ua, uc, ur, ui, _, _, _, _, rfl, g1, g2, g3, g4, _, _⟩ := hdk
  obtain ⟨A1, k1, rfl⟩ := RowE.slice h1
  obtain ⟨A2, k2, rfl⟩ := ManyE.slice h2
  obtain ⟨A3, k3, rfl⟩ := ManyE.slice h3
  obtain ⟨A4, k4, rfl⟩ := ManyE.slice h4
  obtain ⟨B1, j1, rfl⟩ := RowE.slice g1
  obtain ⟨B2, j2, rfl⟩ := ManyE.slice g2
  obtain ⟨B3, j3, rfl⟩ := ManyE.slice g3
  obtain ⟨B4, j4, rfl⟩ := ManyE.slice g4
  have bl1 : c.accept.length ≤ 1048576 := hbc.accept
  have bl2 : d.accept.length ≤ 1048576 := hbd.accept
  have QC := Lib.hid (fun (W : World) (hW : Below w.heap.size w W) => impl_ValidChecker W hbc ((ck_ok _).later hck0 hW))
  have QD := Lib.hid (fun (W : World) (hW : Below w.heap.size w W) => impl_ValidChecker W hbd ((ck_ok _).later hdk0 hW))
  rw [h] at QC
  obtain ⟨n1, hn1⟩ : ∃ n, n = c.accept.length := ⟨_, rfl⟩
  obtain ⟨m1, hm1⟩ : ∃ n, n = d.accept.length := ⟨_, rfl⟩
  rw [← hn1] at bl1 QC ⊢
  rw [← hm1] at bl2 QD ⊢
  clear hn1 hm1
  generalize c.call.length = n2 at *
  generalize c.ret.length = n3 at *
  generalize c.inner.length = n4 at *
  generalize d.call.length = m2 at *
  generalize d.ret.length = m3 at *
  generalize d.inner.length = m4 at *
  have hB := (((Below.refl w.heap.size w).alloc (Nat.le_refl _) (.cells #[.int .i64 c.stack, .int .i64 c.start, .slice A1 n1 k1, .slice A2 n2 k2, .slice A3 n3 k3, .slice A4 n4 k4] 31)).alloc (by simp) (.cells #[.int .i64 d.stack, .int .i64 d.start, .slice B1 m1 j1, .slice B2 m2 j2, .slice B3 m3 j3, .slice B4 m4 j4] 31)).alloc (by simp; omega) (.cells #[.int .i64 0, .int .i64 0, .slice none 0 0, .slice none 0 0, .slice none 0 0, .slice none 0 0] 31)
  have t1 := ((Bx.new w 31 #[.int .i64 c.stack, .int .i64 c.start, .slice A1 n1 k1, .slice A2 n2 k2, .slice A3 n3 k3, .slice A4 n4 k4]).alloc (.cells #[.int .i64 d.stack, .int .i64 d.start, .slice B1 m1 j1, .slice B2 m2 j2, .slice B3 m3 j3, .slice B4 m4 j4] 31)).alloc (.cells #[.int .i64 0, .int .i64 0, .slice none 0 0, .slice none 0 0, .slice none 0 0, .slice none 0 0] 31)
  have t2 := (Bx.new (w.alloc (.cells #[.int .i64 c.stack, .int .i64 c.start, .slice A1 n1 k1, .slice A2 n2 k2, .slice A3 n3 k3, .slice A4 n4 k4] 31)) 31 #[.int .i64 d.stack, .int .i64 d.start, .slice B1 m1 j1, .slice B2 m2 j2, .slice B3 m3 j3, .slice B4 m4 j4]).alloc (.cells #[.int .i64 0, .int .i64 0, .slice none 0 0, .slice none 0 0, .slice none 0 0, .slice none 0 0] 31)
  have t3 := Bx.new ((w.alloc (.cells #[.int .i64 c.stack, .int .i64 c.start, .slice A1 n1 k1, .slice A2 n2 k2, .slice A3 n3 k3, .slice A4 n4 k4] 31)).alloc (.cells #[.int .i64 d.stack, .int .i64 d.start, .slice B1 m1 j1, .slice B2 m2 j2, .slice B3 m3 j3, .slice B4 m4 j4] 31)) 31 #[.int .i64 0, .int .i64 0, .slice none 0 0, .slice none 0 0, .slice none 0 0, .slice none 0 0]
  simp only [World.size_alloc] at t2 t3
  obtain ⟨W0, hW0⟩ : ∃ W0, W0 = ((w.alloc (.cells #[.int .i64 c.stack, .int .i64 c.start, .slice A1 n1 k1, .slice A2 n2 k2, .slice A3 n3 k3, .slice A4 n4 k4] 31)).alloc (.cells #[.int .i64 d.stack, .int .i64 d.start, .slice B1 m1 j1, .slice B2 m2 j2, .slice B3 m3 j3, .slice B4 m4 j4] 31)).alloc (.cells #[.int .i64 0, .int .i64 0, .slice none 0 0, .slice none 0 0, .slice none 0 0, .slice none 0 0] 31) := ⟨_, rfl⟩
  rw [← hW0] at t1 t2 t3 hB
  have HT := Lib.hid (And.intro t1 (And.intro t2 (And.intro t3 hB)))
  have HW0 := Lib.hid hW0
  clear hW0 t1 t2 t3 hB h1 h2 h3 h4 g1 g2 g3 g4 hck0 hdk0 hbc hbd hcf hf h QD
  go_enter Try.func54, Try.ntmps54
  go_upto_region 1 with fail
  rw [← HW0.out]
  obtain ⟨t1, t2, t3, hB⟩ := HT.out
  obtain ⟨x0, x1, x2, x3, x4, x5, xl⟩ := id t1.all6
  go_wp2_with fail
  refine (QC.out _ hB).mono ?_
  rintro e wa ⟨rfl, hb1⟩
  replace t1 := t1.later hb1
  replace t2 := t2.later hb1
  replace t3 := t3.later hb1
  replace hB := hB.trans (hb1.mono hB.size)
  clear x0 x1 x2 x3 x4 x5 xl hb1
  have hlo : w.heap.size ≤ w.heap.size + 1 + 1 := by omega
  obtain ⟨c0, c1, c2, c3, c4, c5, cl⟩ := id t3.all6
  have q0 := t3.frozen 0
  have q1 := t3.frozen 1
  have q2 := t3.frozen 2
  have q3 := t3.frozen 3
  have q4 := t3.frozen 4
  have q5 := t3.frozen 5
  have HH := Lib.hid (And.intro t3 hB)
  clear t1 t2 t3 hB
  go_wp2
  clear c0 c1 c2 c3 c4 c5 cl q0 q1 q2 q3 q4 q5
  obtain ⟨t3, hB⟩ := HH.out
  have x0_ := t3.set 0 (.int .i64 0)
  have x1_ := x0_.set 1 (.int .i64 0)
  have x2_ := x1_.set 2 (.slice none 0 0)
  have x3_ := x2_.set 3 (.slice none 0 0)
  have x4_ := x3_.set 4 (.slice none 0 0)
  have x5_ := x4_.set 5 (.slice none 0 0)
  have y0 := x5_.cell 0 (.int .i64 0) rfl
  have y1 := x5_.cell 1 (.int .i64 0) rfl
  have y2 := x5_.cell 2 (.slice none 0 0) rfl
  have y3 := x5_.cell 3 (.slice none 0 0) rfl
  have y4 := x5_.cell 4 (.slice none 0 0) rfl
  have y5 := x5_.cell 5 (.slice none 0 0) rfl
  have hBf := ((((((hB.setCell (p := ⟨w.heap.size + 1 + 1, 0, none⟩) hlo (.int .i64 0)).setCell (p := ⟨w.heap.size + 1 + 1, 1, none⟩) hlo (.int .i64 0)).setCell (p := ⟨w.heap.size + 1 + 1, 2, none⟩) hlo (.slice none 0 0)).setCell (p := ⟨w.heap.size + 1 + 1, 3, none⟩) hlo (.slice none 0 0)).setCell (p := ⟨w.heap.size + 1 + 1, 4, none⟩) hlo (.slice none 0 0)).setCell (p := ⟨w.heap.size + 1 + 1, 5, none⟩) hlo (.slice none 0 0))
  exact bodyPost_ret (v := .tuple #[.agg #[.int .i64 0, .int .i64 0, .slice none 0 0, .slice none 0 0, .slice none 0 0, .slice none 0 0], .int .i64 1]) (by simp [results, Try.results54, go_sem, y0, y1, y2, y3, y4, y5]) rfl ⟨_, [], rfl, nil_ck _ _, hBf⟩
set_option maxHeartbeats 6400000 in
set_option maxRecDepth 100000 in
theorem impl_prod_no2 {base base' : Nat} {v v' : Value} {c d : Ck} {bs bs' : List Nat} (fF : Bool → Bool → Bool) (f : FuncId) (w : World) (hcf : ∀ args w, (callFunc f args).run Try.prog w = .ok (.enter f args) w)
    (hf : ∀ x y W, Calls Try.prog f #[.bool x, .bool y] W (TupPost (.bool (fF x y)) W)) (hbc : BdC c) (hbd : BdC d) (hck : CkE base w v c bs) (hdk : CkE base' w v' d bs') (hc : okM c = true) (h : okM d = false) :
    Calls Try.prog 54 #[v, v', .func (.func f) #[] #[]] w (PostV CkE nilCk 1 w) := by
  have hck0 := hck
  have hdk0 := hdk
  obtain ⟨va, vc, vr, vi, _, _, _, _, rfl, h1, h2, h3, h4, _, _⟩ := hck
  obtain ⟨ua, uc, ur, ui, _, _, _, _, rfl, g1, g2, g3, g4, _, _⟩ := hdk
  obtain ⟨A1, k1, rfl⟩ := RowE.slice h1
  obtain ⟨A2, k2, rfl⟩ := ManyE.slice h2
  obtain ⟨A3, k3, rfl⟩ := ManyE.slice h3
  obtain ⟨A4, k4, rfl⟩ := ManyE.slice h4
  obtain ⟨B1, j1, rfl⟩ := RowE.slice g1
  obtain ⟨B2, j2, rfl⟩ := ManyE.slice g2
  obtain ⟨B3, j3, rfl⟩ := ManyE.slice g3
  obtain ⟨B4, j4, rfl⟩ := ManyE.slice g4
  have bl1 : c.accept.length ≤ 1048576 := hbc.accept
  have bl2 : d.accept.length ≤ 1048576 := hbd.accept
  have QC := Lib.hid (fun (W : World) (hW : Below w.heap.size w W) => impl_ValidChecker W hbc ((ck_ok _).later hck0 hW))
  have QD := Lib.hid (fun (W : World) (hW : Below w.heap.size w W) => impl_ValidChecker W hbd ((ck_ok _).later hdk0 hW))
  rw [hc] at QC
  rw [h] at QD
  obtain ⟨n1, hn1⟩ : ∃ n, n = c.accept.length := ⟨_, rfl⟩
  obtain ⟨m1, hm1⟩ : ∃ n, n = d.accept.length := ⟨_, rfl⟩
  rw [← hn1] at bl1 QC ⊢
  rw [← hm1] at bl2 QD ⊢
  clear hn1 hm1
  generalize c.call.length = n2 at *
  generalize c.ret.length = n3 at *
  generalize c.inner.length = n4 at *
  generalize d.call.length = m2 at *
  generalize d.ret.length = m3 at *
  generalize d.inner.length = m4 at *
  have hB := (((Below.refl w.heap.size w).alloc (Nat.le_refl _) (.cells #[.int .i64 c.stack, .int .i64 c.start, .slice A1 n1 k1, .slice A2 n2 k2, .slice A3 n3 k3, .slice A4 n4 k4] 31)).alloc (by simp) (.cells #[.int .i64 d.stack, .int .i64 d.start, .slice B1 m1 j1, .slice B2 m2 j2, .slice B3 m3 j3, .slice B4 m4 j4] 31)).alloc (by simp; omega) (.cells #[.int .i64 0, .int .i64 0, .slice none 0 0, .slice none 0 0, .slice none 0 0, .slice none 0 0] 31)
  have t1 := ((Bx.new w 31 #[.int .i64 c.stack, .int .i64 c.start, .slice A1 n1 k1, .slice A2 n2 k2, .slice A3 n3 k3, .slice A4 n4 k4]).alloc (.cells #[.int .i64 d.stack, .int .i64 d.start, .slice B1 m1 j1, .slice B2 m2 j2, .slice B3 m3 j3, .slice B4 m4 j4] 31)).alloc (.cells #[.int .i64 0, .int .i64 0, .slice none 0 0, .slice none 0 0, .slice none 0 0, .slice none 0 0] 31)
  have t2 := (Bx.new (w.alloc (.cells #[.int .i64 c.stack, .int .i64 c.start, .slice A1 n1 k1, .slice A2 n2 k2, .slice A3 n3 k3, .slice A4 n4 k4] 31)) 31 #[.int .i64 d.stack, .int .i64 d.start, .slice B1 m1 j1, .slice B2 m2 j2, .slice B3 m3 j3, .slice B4 m4 j4]).alloc (.cells #[.int .i64 0, .int .i64 0, .slice none 0 0, .slice none 0 0, .slice none 0 0, .slice none 0 0] 31)
  have t3 := Bx.new ((w.alloc (.cells #[.int .i64 c.stack, .int .i64 c.start, .slice A1 n1 k1, .slice A2 n2 k2, .slice A3 n3 k3, .slice A4 n4 k4] 31)).alloc (.cells #[.int .i64 d.stack, .int .i64 d.start, .slice B1 m1 j1, .slice B2 m2 j2, .slice B3 m3 j3, .slice B4 m4 j4] 31)) 31 #[.int .i64 0, .int .i64 0, .slice none 0 0, .slice none 0 0, .slice none 0 0, .slice none 0 0]
  simp only [World.size_alloc] at t2 t3
  obtain ⟨W0, hW0⟩ : ∃ W0, W0 = ((w.alloc (.cells #[.int .i64 c.stack, .int .i64 c.start, .slice A1 n1 k1, .slice A2 n2 k2, .slice A3 n3 k3, .slice A4 n4 k4] 31)).alloc (.cells #[.int .i64 d.stack, .int .i64 d.start, .slice B1 m1 j1, .slice B2 m2 j2, .slice B3 m3 j3, .slice B4 m4 j4] 31)).alloc (.cells #[.int .i64 0, .int .i64 0, .slice none 0 0, .slice none 0 0, .slice none 0 0, .slice none 0 0] 31) := ⟨_, rfl⟩
  rw [← hW0] at t1 t2 t3 hB
  have HT := Lib.hid (And.intro t1 (And.intro t2 (And.intro t3 hB)))
  have HW0 := Lib.hid hW0
  clear hW0 t1 t2 t3 hB h1 h2 h3 h4 g1 g2 g3 g4 hck0 hdk0 hbc hbd hcf hf h hc
  go_enter Try.func54, Try.ntmps54
  go_upto_region 1 with fail
  rw [← HW0.out]
  obtain ⟨t1, t2, t3, hB⟩ := HT.out
  obtain ⟨x0, x1, x2, x3, x4, x5, xl⟩ := id t1.all6
  go_wp2_with fail
  refine (QC.out _ hB).mono ?_
  rintro e wa ⟨rfl, hb1⟩
  replace t1 := t1.later hb1
  replace t2 := t2.later hb1
  replace t3 := t3.later hb1
  replace hB := hB.trans (hb1.mono hB.size)
  clear x0 x1 x2 x3 x4 x5 xl hb1
  obtain ⟨x0, x1, x2, x3, x4, x5, xl⟩ := id t2.all6
  go_wp2_with fail
  refine (QD.out _ hB).mono ?_
  rintro e wb ⟨rfl, hb2⟩
  replace t1 := t1.later hb2
  replace t2 := t2.later hb2
  replace t3 := t3.later hb2
  replace hB := hB.trans (hb2.mono hB.size)
  clear x0 x1 x2 x3 x4 x5 xl hb2
  have hlo : w.heap.size ≤ w.heap.size + 1 + 1 := by omega
  obtain ⟨c0, c1, c2, c3, c4, c5, cl⟩ := id t3.all6
  have q0 := t3.frozen 0
  have q1 := t3.frozen 1
  have q2 := t3.frozen 2
  have q3 := t3.frozen 3
  have q4 := t3.frozen 4
  have q5 := t3.frozen 5
  have HH := Lib.hid (And.intro t3 hB)
  clear t1 t2 t3 hB
  go_wp2
  clear c0 c1 c2 c3 c4 c5 cl q0 q1 q2 q3 q4 q5
  obtain ⟨t3, hB⟩ := HH.out
  have x0_ := t3.set 0 (.int .i64 0)
  have x1_ := x0_.set 1 (.int .i64 0)
  have x2_ := x1_.set 2 (.slice none 0 0)
  have x3_ := x2_.set 3 (.slice none 0 0)
  have x4_ := x3_.set 4 (.slice none 0 0)
  have x5_ := x4_.set 5 (.slice none 0 0)
  have y0 := x5_.cell 0 (.int .i64 0) rfl
  have y1 := x5_.cell 1 (.int .i64 0) rfl
  have y2 := x5_.cell 2 (.slice none 0 0) rfl
  have y3 := x5_.cell 3 (.slice none 0 0) rfl
  have y4 := x5_.cell 4 (.slice none 0 0) rfl
  have y5 := x5_.cell 5 (.slice none 0 0) rfl
  have hBf := ((((((hB.setCell (p := ⟨w.heap.size + 1 + 1, 0, none⟩) hlo (.int .i64 0)).setCell (p := ⟨w.heap.size + 1 + 1, 1, none⟩) hlo (.int .i64 0)).setCell (p := ⟨w.heap.size + 1 + 1, 2, none⟩) hlo (.slice none 0 0)).setCell (p := ⟨w.heap.size + 1 + 1, 3, none⟩) hlo (.slice none 0 0)).setCell (p := ⟨w.heap.size + 1 + 1, 4, none⟩) hlo (.slice none 0 0)).setCell (p := ⟨w.heap.size + 1 + 1, 5, none⟩) hlo (.slice none 0 0))
  exact bodyPost_ret (v := .tuple #[.agg #[.int .i64 0, .int .i64 0, .slice none 0 0, .slice none 0 0, .slice none 0 0, .slice none 0 0], .int .i64 1]) (by simp [results, Try.results54, go_sem, y0, y1, y2, y3, y4, y5]) rfl ⟨_, [], rfl, nil_ck _ _, hBf⟩
set_option maxHeartbeats 6400000 in
set_option maxRecDepth 100000 in
theorem impl_prod_big {base base' : Nat} {v v' : Value} {c d : Ck} {bs bs' : List Nat} (fF : Bool → Bool → Bool) (f : FuncId) (w : World) (hcf : ∀ args w, (callFunc f args).run Try.prog w = .ok (.enter f args) w)
    (hf : ∀ x y W, Calls Try.prog f #[.bool x, .bool y] W (TupPost (.bool (fF x y)) W)) (hbc : BdC c) (hbd : BdC d) (hck : CkE base w v c bs) (hdk : CkE base' w v' d bs') (hc : okM c = true) (hd : okM d = true) (h : ¬ c.accept.length * d.accept.length ≤ 40) :
    Calls Try.prog 54 #[v, v', .func (.func f) #[] #[]] w (PostV CkE nilCk 3 w) := by
  have hck0 := hck
  have hdk0 := hdk
  obtain ⟨va, vc, vr, vi, _, _, _, _, rfl, h1, h2, h3, h4, _, _⟩ := hck
  obtain ⟨ua, uc, ur, ui, _, _, _, _, rfl, g1, g2, g3, g4, _, _⟩ := hdk
  obtain ⟨A1, k1, rfl⟩ := RowE.slice h1
  obtain ⟨A2, k2, rfl⟩ := ManyE.slice h2
  obtain ⟨A3, k3, rfl⟩ := ManyE.slice h3
  obtain ⟨A4, k4, rfl⟩ := ManyE.slice h4
  obtain ⟨B1, j1, rfl⟩ := RowE.slice g1
  obtain ⟨B2, j2, rfl⟩ := ManyE.slice g2
  obtain ⟨B3, j3, rfl⟩ := ManyE.slice g3
  obtain ⟨B4, j4, rfl⟩ := ManyE.slice g4
  have bl1 : c.accept.length ≤ 1048576 := hbc.accept
  have bl2 : d.accept.length ≤ 1048576 := hbd.accept
  have QC := Lib.hid (fun (W : World) (hW : Below w.heap.size w W) => impl_ValidChecker W hbc ((ck_ok _).later hck0 hW))
  have QD := Lib.hid (fun (W : World) (hW : Below w.heap.size w W) => impl_ValidChecker W hbd ((ck_ok _).later hdk0 hW))
  have hokc := okC_of hc
  have hokd := okC_of hd
  rw [hc] at QC
  rw [hd] at QD
  have sc : Sm c.stack := ⟨by have := hokc.st1; omega, by have := hokc.st2; omega⟩
  have sd : Sm d.stack := ⟨by have := hokd.st1; omega, by have := hokd.st2; omega⟩
  have na : Sm (c.accept.length : Int) := ⟨by omega, by have := hokc.n2; omega⟩
  have nb : Sm (d.accept.length : Int) := ⟨by omega, by have := hokd.n2; omega⟩
  have ew1 := wrap_mul na nb
  have ew2 := wrap_mul sc sd
  have QP := Lib.hid (fun (W : World) (hW : Below w.heap.size w W) => impl_paired fF f W hcf hf hokc hokd ((ck_ok _).later hck0 hW) ((ck_ok _).later hdk0 hW))
  obtain ⟨n1, hn1⟩ : ∃ n, n = c.accept.length := ⟨_, rfl⟩
  obtain ⟨m1, hm1⟩ : ∃ n, n = d.accept.length := ⟨_, rfl⟩
  have hl1 : ((c.accept.length * d.accept.length : Nat) : Int) = (c.accept.length : Int) * (d.accept.length : Int) := by simp
  rw [← hn1] at bl1 ew1 hl1 h QP QC ⊢
  rw [← hm1] at bl2 ew1 hl1 h QP QD ⊢
  have RC1 := Lib.hid (fun (W : World) => paired_cnt (s0 := c.stack) (s1 := c.start) (A := A1) (n := n1) (ka := k1) (vc := .slice A2 c.call.length k2) (vr := .slice A3 c.ret.length k3) (vi := .slice A4 c.inner.length k4) W bl1)
  have RC2 := Lib.hid (fun (W : World) => paired_cnt (s0 := d.stack) (s1 := d.start) (A := B1) (n := m1) (ka := j1) (vc := .slice B2 d.call.length j2) (vr := .slice B3 d.ret.length j3) (vi := .slice B4 d.inner.length j4) W bl2)
  obtain ⟨P, hP⟩ : ∃ P, P = pairC fF c d := ⟨_, rfl⟩
  rw [← hP] at QP
  have hx : 40 < (n1 : Int) * (m1 : Int) := by omega
  clear h hl1 QP hn1 hm1 hP
  generalize c.call.length = n2 at *
  generalize c.ret.length = n3 at *
  generalize c.inner.length = n4 at *
  generalize d.call.length = m2 at *
  generalize d.ret.length = m3 at *
  generalize d.inner.length = m4 at *
  have hB := (((Below.refl w.heap.size w).alloc (Nat.le_refl _) (.cells #[.int .i64 c.stack, .int .i64 c.start, .slice A1 n1 k1, .slice A2 n2 k2, .slice A3 n3 k3, .slice A4 n4 k4] 31)).alloc (by simp) (.cells #[.int .i64 d.stack, .int .i64 d.start, .slice B1 m1 j1, .slice B2 m2 j2, .slice B3 m3 j3, .slice B4 m4 j4] 31)).alloc (by simp; omega) (.cells #[.int .i64 0, .int .i64 0, .slice none 0 0, .slice none 0 0, .slice none 0 0, .slice none 0 0] 31)
  have t1 := ((Bx.new w 31 #[.int .i64 c.stack, .int .i64 c.start, .slice A1 n1 k1, .slice A2 n2 k2, .slice A3 n3 k3, .slice A4 n4 k4]).alloc (.cells #[.int .i64 d.stack, .int .i64 d.start, .slice B1 m1 j1, .slice B2 m2 j2, .slice B3 m3 j3, .slice B4 m4 j4] 31)).alloc (.cells #[.int .i64 0, .int .i64 0, .slice none 0 0, .slice none 0 0, .slice none 0 0, .slice none 0 0] 31)
  have t2 := (Bx.new (w.alloc (.cells #[.int .i64 c.stack, .int .i64 c.start, .slice A1 n1 k1, .slice A2 n2 k2, .slice A3 n3 k3, .slice A4 n4 k4] 31)) 31 #[.int .i64 d.stack, .int .i64 d.start, .slice B1 m1 j1, .slice B2 m2 j2, .slice B3 m3 j3, .slice B4 m4 j4]).alloc (.cells #[.int .i64 0, .int .i64 0, .slice none 0 0, .slice none 0 0, .slice none 0 0, .slice none 0 0] 31)
  have t3 := Bx.new ((w.alloc (.cells #[.int .i64 c.stack, .int .i64 c.start, .slice A1 n1 k1, .slice A2 n2 k2, .slice A3 n3 k3, .slice A4 n4 k4] 31)).alloc (.cells #[.int .i64 d.stack, .int .i64 d.start, .slice B1 m1 j1, .slice B2 m2 j2, .slice B3 m3 j3, .slice B4 m4 j4] 31)) 31 #[.int .i64 0, .int .i64 0, .slice none 0 0, .slice none 0 0, .slice none 0 0, .slice none 0 0]
  simp only [World.size_alloc] at t2 t3
  obtain ⟨W0, hW0⟩ : ∃ W0, W0 = ((w.alloc (.cells #[.int .i64 c.stack, .int .i64 c.start, .slice A1 n1 k1, .slice A2 n2 k2, .slice A3 n3 k3, .slice A4 n4 k4] 31)).alloc (.cells #[.int .i64 d.stack, .int .i64 d.start, .slice B1 m1 j1, .slice B2 m2 j2, .slice B3 m3 j3, .slice B4 m4 j4] 31)).alloc (.cells #[.int .i64 0, .int .i64 0, .slice none 0 0, .slice none 0 0, .slice none 0 0, .slice none 0 0] 31) := ⟨_, rfl⟩
  rw [← hW0] at t1 t2 t3 hB
  have HT := Lib.hid (And.intro t1 (And.intro t2 (And.intro t3 hB)))
  have HW0 := Lib.hid hW0
  clear hW0 t1 t2 t3 hB h1 h2 h3 h4 g1 g2 g3 g4 hck0 hdk0 hbc hbd hcf hf hc hd hokc hokd sc sd na nb ew2
  go_enter Try.func54, Try.ntmps54
  go_upto_region 1 with fail
  rw [← HW0.out]
  obtain ⟨t1, t2, t3, hB⟩ := HT.out
  obtain ⟨x0, x1, x2, x3, x4, x5, xl⟩ := id t1.all6
  go_wp2_with fail
  refine (QC.out _ hB).mono ?_
  rintro e wa ⟨rfl, hb1⟩
  replace t1 := t1.later hb1
  replace t2 := t2.later hb1
  replace t3 := t3.later hb1
  replace hB := hB.trans (hb1.mono hB.size)
  clear x0 x1 x2 x3 x4 x5 xl hb1
  obtain ⟨x0, x1, x2, x3, x4, x5, xl⟩ := id t2.all6
  go_wp2_with fail
  refine (QD.out _ hB).mono ?_
  rintro e wb ⟨rfl, hb2⟩
  replace t1 := t1.later hb2
  replace t2 := t2.later hb2
  replace t3 := t3.later hb2
  replace hB := hB.trans (hb2.mono hB.size)
  clear x0 x1 x2 x3 x4 x5 xl hb2
  go_upto_region 3 with fail
  have W_ := wb
  clear W_
  refine wp_region_free (by kernel_rfl) [
      .val [] (fun _ => .agg #[.int .i64 c.stack, .int .i64 c.start, .slice A1 n1 k1, .slice A2 n2 k2, .slice A3 n3 k3, .slice A4 n4 k4]),
      .val [] (fun _ => .int .i64 (n1 : Int)),
      .val [] (fun _ => .agg #[.int .i64 d.stack, .int .i64 d.start, .slice B1 m1 j1, .slice B2 m2 j2, .slice B3 m3 j3, .slice B4 m4 j4]),
      .val [] (fun _ => .int .i64 (m1 : Int)),
      .val [] (fun _ => .int .i64 ((n1 : Int) * (m1 : Int))),
      .val [] (fun _ => .bool true),
      .val [] (fun _ => .bool true),
      .val [] (fun _ => undef),
      .val [] (fun _ => undef),
      .val [] (fun _ => undef),
      .val [] (fun _ => undef),
      .val [] (fun _ => undef),
      .val [] (fun _ => undef),
      .val [] (fun _ => .bool true)] ?hp ?hfw ?deps ?oks ?steps ?tail
  case hp => kernel_rfl
  case hfw => kernel_rfl
  case deps => kernel_rfl
  case oks =>
    intro F hF
    simp only [List.mem_cons, List.not_mem_nil, or_false] at hF
    rcases hF with rfl | rfl | rfl | rfl | rfl | rfl | rfl | rfl | rfl | rfl | rfl | rfl | rfl | rfl
    · trivial
    · trivial
    · trivial
    · trivial
    · trivial
    · trivial
    · trivial
    · trivial
    · trivial
    · trivial
    · trivial
    · trivial
    · trivial
    · trivial
  case steps =>
    refine Steps.cons ?_ ?_
    · refine FreeStep.val [] _ rfl rfl fun u β W hW hn fr hfr K hK => ?_
      simp only [frameL, putL, Act.put, List.setIfInBounds_toArray, List.set_cons_zero, List.set_cons_succ, Nat.zero_add, Nat.reduceAdd] at hfr
      subst hfr
      have c0 := cellL (t1.cell 0 _ rfl) hW
      have c1 := cellL (t1.cell 1 _ rfl) hW
      have c2 := cellL (t1.cell 2 _ rfl) hW
      have c3 := cellL (t1.cell 3 _ rfl) hW
      have c4 := cellL (t1.cell 4 _ rfl) hW
      have c5 := cellL (t1.cell 5 _ rfl) hW
      have HK := Lib.hid hK
      clear hK hn
      go_simp
      have h9 := HK.out
      revert h9
      clear HK
      go_simp
      try exact id
    refine Steps.cons ?_ ?_
    · refine FreeStep.calm [] _ rfl rfl fun u β W hW hn fr hfr K hK => ?_
      simp only [frameL, putL, Act.put, List.setIfInBounds_toArray, List.set_cons_zero, List.set_cons_succ, Nat.zero_add, Nat.reduceAdd] at hfr
      subst hfr
      have e0 : u 0 = .agg #[.int .i64 c.stack, .int .i64 c.start, .slice A1 n1 k1, .slice A2 n2 k2, .slice A3 n3 k3, .slice A4 n4 k4] := Have.get (k := 0) hn rfl
      simp only [e0] at hK
      have Q := Lib.hid (RC1.out W)
      have HK := Lib.hid hK
      clear hK hn
      go_simp
      refine Q.out.mono ?_
      rintro e w9 ⟨rfl, hb9⟩
      exact HK.out w9 hb9
    refine Steps.cons ?_ ?_
    · refine FreeStep.val [] _ rfl rfl fun u β W hW hn fr hfr K hK => ?_
      simp only [frameL, putL, Act.put, List.setIfInBounds_toArray, List.set_cons_zero, List.set_cons_succ, Nat.zero_add, Nat.reduceAdd] at hfr
      subst hfr
      have c0 := cellL (t2.cell 0 _ rfl) hW
      have c1 := cellL (t2.cell 1 _ rfl) hW
      have c2 := cellL (t2.cell 2 _ rfl) hW
      have c3 := cellL (t2.cell 3 _ rfl) hW
      have c4 := cellL (t2.cell 4 _ rfl) hW
      have c5 := cellL (t2.cell 5 _ rfl) hW
      have HK := Lib.hid hK
      clear hK hn
      go_simp
      have h9 := HK.out
      revert h9
      clear HK
      go_simp
      try exact id
    refine Steps.cons ?_ ?_
    · refine FreeStep.calm [] _ rfl rfl fun u β W hW hn fr hfr K hK => ?_
      simp only [frameL, putL, Act.put, List.setIfInBounds_toArray, List.set_cons_zero, List.set_cons_succ, Nat.zero_add, Nat.reduceAdd] at hfr
      subst hfr
      have e2 : u 2 = .agg #[.int .i64 d.stack, .int .i64 d.start, .slice B1 m1 j1, .slice B2 m2 j2, .slice B3 m3 j3, .slice B4 m4 j4] := Have.get (k := 2) hn rfl
      simp only [e2] at hK
      have Q := Lib.hid (RC2.out W)
      have HK := Lib.hid hK
      clear hK hn
      go_simp
      refine Q.out.mono ?_
      rintro e w9 ⟨rfl, hb9⟩
      exact HK.out w9 hb9
    refine Steps.cons ?_ ?_
    · refine FreeStep.val [] _ rfl rfl fun u β W hW hn fr hfr K hK => ?_
      simp only [frameL, putL, Act.put, List.setIfInBounds_toArray, List.set_cons_zero, List.set_cons_succ, Nat.zero_add, Nat.reduceAdd] at hfr
      subst hfr
      have e1 : u 1 = .int .i64 (n1 : Int) := Have.get (k := 1) hn rfl
      have e3 : u 3 = .int .i64 (m1 : Int) := Have.get (k := 3) hn rfl
      simp only [e1, e3] at hK
      have HK := Lib.hid hK
      clear hK hn
      go_simp
      have h9 := HK.out
      revert h9
      clear HK
      go_simp
      try exact id
    refine Steps.cons ?_ ?_
    · refine FreeStep.val [] _ rfl rfl fun u β W hW hn fr hfr K hK => ?_
      simp only [frameL, putL, Act.put, List.setIfInBounds_toArray, List.set_cons_zero, List.set_cons_succ, Nat.zero_add, Nat.reduceAdd] at hfr
      subst hfr
      have e4 : u 4 = .int .i64 ((n1 : Int) * (m1 : Int)) := Have.get (k := 4) hn rfl
      simp only [e4] at hK
      have HK := Lib.hid hK
      clear hK hn
      go_simp
      have h9 := HK.out
      revert h9
      clear HK
      go_simp
      try exact id
    refine Steps.cons ?_ ?_
    · refine FreeStep.val [] _ rfl rfl fun u β W hW hn fr hfr K hK => ?_
      simp only [frameL, putL, Act.put, List.setIfInBounds_toArray, List.set_cons_zero, List.set_cons_succ, Nat.zero_add, Nat.reduceAdd] at hfr
      subst hfr
      have e5 : u 5 = .bool true := Have.get (k := 5) hn rfl
      simp only [e5] at hK
      have HK := Lib.hid hK
      clear hK hn
      go_simp
      have h9 := HK.out
      revert h9
      clear HK
      go_simp
      try exact id
    refine Steps.cons ?_ ?_
    · refine FreeStep.val [] _ rfl rfl fun u β W hW hn fr hfr K hK => ?_
      simp only [frameL, putL, Act.put, List.setIfInBounds_toArray, List.set_cons_zero, List.set_cons_succ, Nat.zero_add, Nat.reduceAdd] at hfr
      subst hfr
      have e6 : u 6 = .bool true := Have.get (k := 6) hn rfl
      simp only [e6] at hK
      have HK := Lib.hid hK
      clear hK hn
      go_simp
      have h9 := HK.out
      revert h9
      clear HK
      go_simp
      try exact id
    refine Steps.cons ?_ ?_
    · refine FreeStep.val [] _ rfl rfl fun u β W hW hn fr hfr K hK => ?_
      simp only [frameL, putL, Act.put, List.setIfInBounds_toArray, List.set_cons_zero, List.set_cons_succ, Nat.zero_add, Nat.reduceAdd] at hfr
      subst hfr
      have e7 : u 7 = undef := Have.get (k := 7) hn rfl
      have e6 : u 6 = .bool true := Have.get (k := 6) hn rfl
      simp only [e7, e6] at hK
      have HK := Lib.hid hK
      clear hK hn
      go_simp
      have h9 := HK.out
      revert h9
      clear HK
      go_simp
      try exact id
    refine Steps.cons ?_ ?_
    · refine FreeStep.val [] _ rfl rfl fun u β W hW hn fr hfr K hK => ?_
      simp only [frameL, putL, Act.put, List.setIfInBounds_toArray, List.set_cons_zero, List.set_cons_succ, Nat.zero_add, Nat.reduceAdd] at hfr
      subst hfr
      have e6 : u 6 = .bool true := Have.get (k := 6) hn rfl
      simp only [e6] at hK
      have HK := Lib.hid hK
      clear hK hn
      go_simp
      have h9 := HK.out
      revert h9
      clear HK
      go_simp
      try exact id
    refine Steps.cons ?_ ?_
    · refine FreeStep.val [] _ rfl rfl fun u β W hW hn fr hfr K hK => ?_
      simp only [frameL, putL, Act.put, List.setIfInBounds_toArray, List.set_cons_zero, List.set_cons_succ, Nat.zero_add, Nat.reduceAdd] at hfr
      subst hfr
      have e9 : u 9 = undef := Have.get (k := 9) hn rfl
      have e6 : u 6 = .bool true := Have.get (k := 6) hn rfl
      simp only [e9, e6] at hK
      have HK := Lib.hid hK
      clear hK hn
      go_simp
      have h9 := HK.out
      revert h9
      clear HK
      go_simp
      try exact id
    refine Steps.cons ?_ ?_
    · refine FreeStep.val [] _ rfl rfl fun u β W hW hn fr hfr K hK => ?_
      simp only [frameL, putL, Act.put, List.setIfInBounds_toArray, List.set_cons_zero, List.set_cons_succ, Nat.zero_add, Nat.reduceAdd] at hfr
      subst hfr
      have e8 : u 8 = undef := Have.get (k := 8) hn rfl
      have e10 : u 10 = undef := Have.get (k := 10) hn rfl
      have e6 : u 6 = .bool true := Have.get (k := 6) hn rfl
      simp only [e8, e10, e6] at hK
      have HK := Lib.hid hK
      clear hK hn
      go_simp
      have h9 := HK.out
      revert h9
      clear HK
      go_simp
      try exact id
    refine Steps.cons ?_ ?_
    · refine FreeStep.val [] _ rfl rfl fun u β W hW hn fr hfr K hK => ?_
      simp only [frameL, putL, Act.put, List.setIfInBounds_toArray, List.set_cons_zero, List.set_cons_succ, Nat.zero_add, Nat.reduceAdd] at hfr
      subst hfr
      have e11 : u 11 = undef := Have.get (k := 11) hn rfl
      have e6 : u 6 = .bool true := Have.get (k := 6) hn rfl
      simp only [e11, e6] at hK
      have HK := Lib.hid hK
      clear hK hn
      go_simp
      have h9 := HK.out
      revert h9
      clear HK
      go_simp
      try exact id
    refine Steps.cons ?_ ?_
    · refine FreeStep.val [] _ rfl rfl fun u β W hW hn fr hfr K hK => ?_
      simp only [frameL, putL, Act.put, List.setIfInBounds_toArray, List.set_cons_zero, List.set_cons_succ, Nat.zero_add, Nat.reduceAdd] at hfr
      subst hfr
      have e6 : u 6 = .bool true := Have.get (k := 6) hn rfl
      have e12 : u 12 = undef := Have.get (k := 12) hn rfl
      simp only [e6, e12] at hK
      have HK := Lib.hid hK
      clear hK hn
      go_simp
      have h9 := HK.out
      revert h9
      clear HK
      go_simp
      try exact id
    exact Steps.nil
  case tail =>
    intro u_ β_ W hW hn hdis hbnd
    have z0 : u_ 0 = .agg #[.int .i64 c.stack, .int .i64 c.start, .slice A1 n1 k1, .slice A2 n2 k2, .slice A3 n3 k3, .slice A4 n4 k4] := Have.get (k := 0) hn rfl
    have z1 : u_ 1 = .int .i64 (n1 : Int) := Have.get (k := 1) hn rfl
    have z2 : u_ 2 = .agg #[.int .i64 d.stack, .int .i64 d.start, .slice B1 m1 j1, .slice B2 m2 j2, .slice B3 m3 j3, .slice B4 m4 j4] := Have.get (k := 2) hn rfl
    have z3 : u_ 3 = .int .i64 (m1 : Int) := Have.get (k := 3) hn rfl
    have z4 : u_ 4 = .int .i64 ((n1 : Int) * (m1 : Int)) := Have.get (k := 4) hn rfl
    have z5 : u_ 5 = .bool true := Have.get (k := 5) hn rfl
    have z6 : u_ 6 = .bool true := Have.get (k := 6) hn rfl
    have z7 : u_ 7 = undef := Have.get (k := 7) hn rfl
    have z8 : u_ 8 = undef := Have.get (k := 8) hn rfl
    have z9 : u_ 9 = undef := Have.get (k := 9) hn rfl
    have z10 : u_ 10 = undef := Have.get (k := 10) hn rfl
    have z11 : u_ 11 = undef := Have.get (k := 11) hn rfl
    have z12 : u_ 12 = undef := Have.get (k := 12) hn rfl
    have z13 : u_ 13 = .bool true := Have.get (k := 13) hn rfl
    rw [← frameL_eq (by kernel_rfl)]
    clear hn hdis hbnd
    simp only [frameL, putL, Act.put, List.setIfInBounds_toArray, List.set_cons_zero, List.set_cons_succ, Nat.zero_add, Nat.reduceAdd, z0, z1, z2, z3, z4, z5, z6, z7, z8, z9, z10, z11, z12, z13]
    clear z0 z1 z2 z3 z4 z5 z6 z7 z8 z9 z10 z11 z12 z13
    replace t1 := t1.later hW
    replace t2 := t2.later hW
    replace t3 := t3.later hW
    replace hB := hB.trans (hW.mono hB.size)
    generalize u_ 0 = s0; generalize u_ 1 = s1; generalize u_ 2 = s2; generalize u_ 3 = s3; generalize u_ 4 = s4; generalize u_ 5 = s5; generalize u_ 6 = s6; generalize u_ 7 = s7; generalize u_ 8 = s8; generalize u_ 9 = s9; generalize u_ 10 = s10; generalize u_ 11 = s11; generalize u_ 12 = s12; generalize u_ 13 = s13
    have hlo : w.heap.size ≤ w.heap.size + 1 + 1 := by omega
    obtain ⟨c0, c1, c2, c3, c4, c5, cl⟩ := id t3.all6
    have q0 := t3.frozen 0
    have q1 := t3.frozen 1
    have q2 := t3.frozen 2
    have q3 := t3.frozen 3
    have q4 := t3.frozen 4
    have q5 := t3.frozen 5
    have HH := Lib.hid (And.intro t3 hB)
    clear t1 t2 t3 hB
    go_wp2
    clear c0 c1 c2 c3 c4 c5 cl q0 q1 q2 q3 q4 q5
    obtain ⟨t3, hB⟩ := HH.out
    have x0_ := t3.set 0 (.int .i64 0)
    have x1_ := x0_.set 1 (.int .i64 0)
    have x2_ := x1_.set 2 (.slice none 0 0)
    have x3_ := x2_.set 3 (.slice none 0 0)
    have x4_ := x3_.set 4 (.slice none 0 0)
    have x5_ := x4_.set 5 (.slice none 0 0)
    have y0 := x5_.cell 0 (.int .i64 0) rfl
    have y1 := x5_.cell 1 (.int .i64 0) rfl
    have y2 := x5_.cell 2 (.slice none 0 0) rfl
    have y3 := x5_.cell 3 (.slice none 0 0) rfl
    have y4 := x5_.cell 4 (.slice none 0 0) rfl
    have y5 := x5_.cell 5 (.slice none 0 0) rfl
    have hBf := ((((((hB.setCell (p := ⟨w.heap.size + 1 + 1, 0, none⟩) hlo (.int .i64 0)).setCell (p := ⟨w.heap.size + 1 + 1, 1, none⟩) hlo (.int .i64 0)).setCell (p := ⟨w.heap.size + 1 + 1, 2, none⟩) hlo (.slice none 0 0)).setCell (p := ⟨w.heap.size + 1 + 1, 3, none⟩) hlo (.slice none 0 0)).setCell (p := ⟨w.heap.size + 1 + 1, 4, none⟩) hlo (.slice none 0 0)).setCell (p := ⟨w.heap.size + 1 + 1, 5, none⟩) hlo (.slice none 0 0))
    exact bodyPost_ret (v := .tuple #[.agg #[.int .i64 0, .int .i64 0, .slice none 0 0, .slice none 0 0, .slice none 0 0, .slice none 0 0], .int .i64 3]) (by simp [results, Try.results54, go_sem, y0, y1, y2, y3, y4, y5]) rfl ⟨_, [], rfl, nil_ck _ _, hBf⟩
set_option maxHeartbeats 6400000 in
set_option maxRecDepth 100000 in
theorem impl_prod_stack {base base' : Nat} {v v' : Value} {c d : Ck} {bs bs' : List Nat} (fF : Bool → Bool → Bool) (f : FuncId) (w : World) (hcf : ∀ args w, (callFunc f args).run Try.prog w = .ok (.enter f args) w)
    (hf : ∀ x y W, Calls Try.prog f #[.bool x, .bool y] W (TupPost (.bool (fF x y)) W)) (hbc : BdC c) (hbd : BdC d) (hck : CkE base w v c bs) (hdk : CkE base' w v' d bs') (hc : okM c = true) (hd : okM d = true) (h : c.accept.length * d.accept.length ≤ 40) (h' : ¬ c.stack * d.stack ≤ 80) :
    Calls Try.prog 54 #[v, v', .func (.func f) #[] #[]] w (PostV CkE nilCk 3 w) := by
  have hck0 := hck
  have hdk0 := hdk
  obtain ⟨va, vc, vr, vi, _, _, _, _, rfl, h1, h2, h3, h4, _, _⟩ := hck
  obtain ⟨ua, uc, ur, ui, _, _, _, _, rfl, g1, g2, g3, g4, _, _⟩ := hdk
  obtain ⟨A1, k1, rfl⟩ := RowE.slice h1
  obtain ⟨A2, k2, rfl⟩ := ManyE.slice h2
  obtain ⟨A3, k3, rfl⟩ := ManyE.slice h3
  obtain ⟨A4, k4, rfl⟩ := ManyE.slice h4
  obtain ⟨B1, j1, rfl⟩ := RowE.slice g1
  obtain ⟨B2, j2, rfl⟩ := ManyE.slice g2
  obtain ⟨B3, j3, rfl⟩ := ManyE.slice g3
  obtain ⟨B4, j4, rfl⟩ := ManyE.slice g4
  have bl1 : c.accept.length ≤ 1048576 := hbc.accept
  have bl2 : d.accept.length ≤ 1048576 := hbd.accept
  have QC := Lib.hid (fun (W : World) (hW : Below w.heap.size w W) => impl_ValidChecker W hbc ((ck_ok _).later hck0 hW))
  have QD := Lib.hid (fun (W : World) (hW : Below w.heap.size w W) => impl_ValidChecker W hbd ((ck_ok _).later hdk0 hW))
  have hokc := okC_of hc
  have hokd := okC_of hd
  rw [hc] at QC
  rw [hd] at QD
  have sc : Sm c.stack := ⟨by have := hokc.st1; omega, by have := hokc.st2; omega⟩
  have sd : Sm d.stack := ⟨by have := hokd.st1; omega, by have := hokd.st2; omega⟩
  have na : Sm (c.accept.length : Int) := ⟨by omega, by have := hokc.n2; omega⟩
  have nb : Sm (d.accept.length : Int) := ⟨by omega, by have := hokd.n2; omega⟩
  have ew1 := wrap_mul na nb
  have ew2 := wrap_mul sc sd
  have QP := Lib.hid (fun (W : World) (hW : Below w.heap.size w W) => impl_paired fF f W hcf hf hokc hokd ((ck_ok _).later hck0 hW) ((ck_ok _).later hdk0 hW))
  obtain ⟨n1, hn1⟩ : ∃ n, n = c.accept.length := ⟨_, rfl⟩
  obtain ⟨m1, hm1⟩ : ∃ n, n = d.accept.length := ⟨_, rfl⟩
  have hl1 : ((c.accept.length * d.accept.length : Nat) : Int) = (c.accept.length : Int) * (d.accept.length : Int) := by simp
  rw [← hn1] at bl1 ew1 hl1 h QP QC ⊢
  rw [← hm1] at bl2 ew1 hl1 h QP QD ⊢
  have RC1 := Lib.hid (fun (W : World) => paired_cnt (s0 := c.stack) (s1 := c.start) (A := A1) (n := n1) (ka := k1) (vc := .slice A2 c.call.length k2) (vr := .slice A3 c.ret.length k3) (vi := .slice A4 c.inner.length k4) W bl1)
  have RC2 := Lib.hid (fun (W : World) => paired_cnt (s0 := d.stack) (s1 := d.start) (A := B1) (n := m1) (ka := j1) (vc := .slice B2 d.call.length j2) (vr := .slice B3 d.ret.length j3) (vi := .slice B4 d.inner.length j4) W bl2)
  obtain ⟨P, hP⟩ : ∃ P, P = pairC fF c d := ⟨_, rfl⟩
  rw [← hP] at QP
  have hx : ¬ 40 < (n1 : Int) * (m1 : Int) := by omega
  have hxd : decide (40 < (n1 : Int) * (m1 : Int)) = false := decide_eq_false hx
  have hy : 80 < c.stack * d.stack := by omega
  clear h h' hl1 QP hn1 hm1 hP
  generalize c.call.length = n2 at *
  generalize c.ret.length = n3 at *
  generalize c.inner.length = n4 at *
  generalize d.call.length = m2 at *
  generalize d.ret.length = m3 at *
  generalize d.inner.length = m4 at *
  have hB := (((Below.refl w.heap.size w).alloc (Nat.le_refl _) (.cells #[.int .i64 c.stack, .int .i64 c.start, .slice A1 n1 k1, .slice A2 n2 k2, .slice A3 n3 k3, .slice A4 n4 k4] 31)).alloc (by simp) (.cells #[.int .i64 d.stack, .int .i64 d.start, .slice B1 m1 j1, .slice B2 m2 j2, .slice B3 m3 j3, .slice B4 m4 j4] 31)).alloc (by simp; omega) (.cells #[.int .i64 0, .int .i64 0, .slice none 0 0, .slice none 0 0, .slice none 0 0, .slice none 0 0] 31)
  have t1 := ((Bx.new w 31 #[.int .i64 c.stack, .int .i64 c.start, .slice A1 n1 k1, .slice A2 n2 k2, .slice A3 n3 k3, .slice A4 n4 k4]).alloc (.cells #[.int .i64 d.stack, .int .i64 d.start, .slice B1 m1 j1, .slice B2 m2 j2, .slice B3 m3 j3, .slice B4 m4 j4] 31)).alloc (.cells #[.int .i64 0, .int .i64 0, .slice none 0 0, .slice none 0 0, .slice none 0 0, .slice none 0 0] 31)
  have t2 := (Bx.new (w.alloc (.cells #[.int .i64 c.stack, .int .i64 c.start, .slice A1 n1 k1, .slice A2 n2 k2, .slice A3 n3 k3, .slice A4 n4 k4] 31)) 31 #[.int .i64 d.stack, .int .i64 d.start, .slice B1 m1 j1, .slice B2 m2 j2, .slice B3 m3 j3, .slice B4 m4 j4]).alloc (.cells #[.int .i64 0, .int .i64 0, .slice none 0 0, .slice none 0 0, .slice none 0 0, .slice none 0 0] 31)
  have t3 := Bx.new ((w.alloc (.cells #[.int .i64 c.stack, .int .i64 c.start, .slice A1 n1 k1, .slice A2 n2 k2, .slice A3 n3 k3, .slice A4 n4 k4] 31)).alloc (.cells #[.int .i64 d.stack, .int .i64 d.start, .slice B1 m1 j1, .slice B2 m2 j2, .slice B3 m3 j3, .slice B4 m4 j4] 31)) 31 #[.int .i64 0, .int .i64 0, .slice none 0 0, .slice none 0 0, .slice none 0 0, .slice none 0 0]
  simp only [World.size_alloc] at t2 t3
  obtain ⟨W0, hW0⟩ : ∃ W0, W0 = ((w.alloc (.cells #[.int .i64 c.stack, .int .i64 c.start, .slice A1 n1 k1, .slice A2 n2 k2, .slice A3 n3 k3, .slice A4 n4 k4] 31)).alloc (.cells #[.int .i64 d.stack, .int .i64 d.start, .slice B1 m1 j1, .slice B2 m2 j2, .slice B3 m3 j3, .slice B4 m4 j4] 31)).alloc (.cells #[.int .i64 0, .int .i64 0, .slice none 0 0, .slice none 0 0, .slice none 0 0, .slice none 0 0] 31) := ⟨_, rfl⟩
  rw [← hW0] at t1 t2 t3 hB
  have HT := Lib.hid (And.intro t1 (And.intro t2 (And.intro t3 hB)))
  have HW0 := Lib.hid hW0
  clear hW0 t1 t2 t3 hB h1 h2 h3 h4 g1 g2 g3 g4 hck0 hdk0 hbc hbd hcf hf hc hd hokc hokd sc sd na nb
  go_enter Try.func54, Try.ntmps54
  go_upto_region 1 with fail
  rw [← HW0.out]
  obtain ⟨t1, t2, t3, hB⟩ := HT.out
  obtain ⟨x0, x1, x2, x3, x4, x5, xl⟩ := id t1.all6
  go_wp2_with fail
  refine (QC.out _ hB).mono ?_
  rintro e wa ⟨rfl, hb1⟩
  replace t1 := t1.later hb1
  replace t2 := t2.later hb1
  replace t3 := t3.later hb1
  replace hB := hB.trans (hb1.mono hB.size)
  clear x0 x1 x2 x3 x4 x5 xl hb1
  obtain ⟨x0, x1, x2, x3, x4, x5, xl⟩ := id t2.all6
  go_wp2_with fail
  refine (QD.out _ hB).mono ?_
  rintro e wb ⟨rfl, hb2⟩
  replace t1 := t1.later hb2
  replace t2 := t2.later hb2
  replace t3 := t3.later hb2
  replace hB := hB.trans (hb2.mono hB.size)
  clear x0 x1 x2 x3 x4 x5 xl hb2
  go_upto_region 3 with fail
  refine wp_region_free (by kernel_rfl) [
      .val [] (fun _ => .agg #[.int .i64 c.stack, .int .i64 c.start, .slice A1 n1 k1, .slice A2 n2 k2, .slice A3 n3 k3, .slice A4 n4 k4]),
      .val [] (fun _ => .int .i64 (n1 : Int)),
      .val [] (fun _ => .agg #[.int .i64 d.stack, .int .i64 d.start, .slice B1 m1 j1, .slice B2 m2 j2, .slice B3 m3 j3, .slice B4 m4 j4]),
      .val [] (fun _ => .int .i64 (m1 : Int)),
      .val [] (fun _ => .int .i64 ((n1 : Int) * (m1 : Int))),
      .val [] (fun _ => .bool false),
      .val [] (fun _ => .bool false),
      .val [] (fun _ => .pointer (some ⟨w.heap.size, 0, none⟩)),
      .val [] (fun _ => .int .i64 c.stack),
      .val [] (fun _ => .pointer (some ⟨w.heap.size + 1, 0, none⟩)),
      .val [] (fun _ => .int .i64 d.stack),
      .val [] (fun _ => .int .i64 (c.stack * d.stack)),
      .val [] (fun _ => .bool true),
      .val [] (fun _ => .bool true)] ?hp ?hfw ?deps ?oks ?steps ?tail
  case hp => kernel_rfl
  case hfw => kernel_rfl
  case deps => kernel_rfl
  case oks =>
    intro F hF
    simp only [List.mem_cons, List.not_mem_nil, or_false] at hF
    rcases hF with rfl | rfl | rfl | rfl | rfl | rfl | rfl | rfl | rfl | rfl | rfl | rfl | rfl | rfl
    · trivial
    · trivial
    · trivial
    · trivial
    · trivial
    · trivial
    · trivial
    · trivial
    · trivial
    · trivial
    · trivial
    · trivial
    · trivial
    · trivial
  case steps =>
    refine Steps.cons ?_ ?_
    · refine FreeStep.val [] _ rfl rfl fun u β W hW hn fr hfr K hK => ?_
      simp only [frameL, putL, Act.put, List.setIfInBounds_toArray, List.set_cons_zero, List.set_cons_succ, Nat.zero_add, Nat.reduceAdd] at hfr
      subst hfr
      have c0 := cellL (t1.cell 0 _ rfl) hW
      have c1 := cellL (t1.cell 1 _ rfl) hW
      have c2 := cellL (t1.cell 2 _ rfl) hW
      have c3 := cellL (t1.cell 3 _ rfl) hW
      have c4 := cellL (t1.cell 4 _ rfl) hW
      have c5 := cellL (t1.cell 5 _ rfl) hW
      have HK := Lib.hid hK
      clear hK hn
      go_simp
      have h9 := HK.out
      revert h9
      clear HK
      go_simp
      try exact id
    refine Steps.cons ?_ ?_
    · refine FreeStep.calm [] _ rfl rfl fun u β W hW hn fr hfr K hK => ?_
      simp only [frameL, putL, Act.put, List.setIfInBounds_toArray, List.set_cons_zero, List.set_cons_succ, Nat.zero_add, Nat.reduceAdd] at hfr
      subst hfr
      have e0 : u 0 = .agg #[.int .i64 c.stack, .int .i64 c.start, .slice A1 n1 k1, .slice A2 n2 k2, .slice A3 n3 k3, .slice A4 n4 k4] := Have.get (k := 0) hn rfl
      simp only [e0] at hK
      have Q := Lib.hid (RC1.out W)
      have HK := Lib.hid hK
      clear hK hn
      go_simp
      refine Q.out.mono ?_
      rintro e w9 ⟨rfl, hb9⟩
      exact HK.out w9 hb9
    refine Steps.cons ?_ ?_
    · refine FreeStep.val [] _ rfl rfl fun u β W hW hn fr hfr K hK => ?_
      simp only [frameL, putL, Act.put, List.setIfInBounds_toArray, List.set_cons_zero, List.set_cons_succ, Nat.zero_add, Nat.reduceAdd] at hfr
      subst hfr
      have c0 := cellL (t2.cell 0 _ rfl) hW
      have c1 := cellL (t2.cell 1 _ rfl) hW
      have c2 := cellL (t2.cell 2 _ rfl) hW
      have c3 := cellL (t2.cell 3 _ rfl) hW
      have c4 := cellL (t2.cell 4 _ rfl) hW
      have c5 := cellL (t2.cell 5 _ rfl) hW
      have HK := Lib.hid hK
      clear hK hn
      go_simp
      have h9 := HK.out
      revert h9
      clear HK
      go_simp
      try exact id
    refine Steps.cons ?_ ?_
    · refine FreeStep.calm [] _ rfl rfl fun u β W hW hn fr hfr K hK => ?_
      simp only [frameL, putL, Act.put, List.setIfInBounds_toArray, List.set_cons_zero, List.set_cons_succ, Nat.zero_add, Nat.reduceAdd] at hfr
      subst hfr
      have e2 : u 2 = .agg #[.int .i64 d.stack, .int .i64 d.start, .slice B1 m1 j1, .slice B2 m2 j2, .slice B3 m3 j3, .slice B4 m4 j4] := Have.get (k := 2) hn rfl
      simp only [e2] at hK
      have Q := Lib.hid (RC2.out W)
      have HK := Lib.hid hK
      clear hK hn
      go_simp
      refine Q.out.mono ?_
      rintro e w9 ⟨rfl, hb9⟩
      exact HK.out w9 hb9
    refine Steps.cons ?_ ?_
    · refine FreeStep.val [] _ rfl rfl fun u β W hW hn fr hfr K hK => ?_
      simp only [frameL, putL, Act.put, List.setIfInBounds_toArray, List.set_cons_zero, List.set_cons_succ, Nat.zero_add, Nat.reduceAdd] at hfr
      subst hfr
      have e1 : u 1 = .int .i64 (n1 : Int) := Have.get (k := 1) hn rfl
      have e3 : u 3 = .int .i64 (m1 : Int) := Have.get (k := 3) hn rfl
      simp only [e1, e3] at hK
      have HK := Lib.hid hK
      clear hK hn
      go_simp
      have h9 := HK.out
      revert h9
      clear HK
      go_simp
      try exact id
    refine Steps.cons ?_ ?_
    · refine FreeStep.val [] _ rfl rfl fun u β W hW hn fr hfr K hK => ?_
      simp only [frameL, putL, Act.put, List.setIfInBounds_toArray, List.set_cons_zero, List.set_cons_succ, Nat.zero_add, Nat.reduceAdd] at hfr
      subst hfr
      have e4 : u 4 = .int .i64 ((n1 : Int) * (m1 : Int)) := Have.get (k := 4) hn rfl
      simp only [e4] at hK
      have HK := Lib.hid hK
      clear hK hn
      go_simp
      have h9 := HK.out
      revert h9
      clear HK
      go_simp
      try exact id
    refine Steps.cons ?_ ?_
    · refine FreeStep.val [] _ rfl rfl fun u β W hW hn fr hfr K hK => ?_
      simp only [frameL, putL, Act.put, List.setIfInBounds_toArray, List.set_cons_zero, List.set_cons_succ, Nat.zero_add, Nat.reduceAdd] at hfr
      subst hfr
      have e5 : u 5 = .bool false := Have.get (k := 5) hn rfl
      simp only [e5] at hK
      have HK := Lib.hid hK
      clear hK hn
      go_simp
      have h9 := HK.out
      revert h9
      clear HK
      go_simp
      try exact id
    refine Steps.cons ?_ ?_
    · refine FreeStep.val [] _ rfl rfl fun u β W hW hn fr hfr K hK => ?_
      simp only [frameL, putL, Act.put, List.setIfInBounds_toArray, List.set_cons_zero, List.set_cons_succ, Nat.zero_add, Nat.reduceAdd] at hfr
      subst hfr
      have e6 : u 6 = .bool false := Have.get (k := 6) hn rfl
      simp only [e6] at hK
      have HK := Lib.hid hK
      clear hK hn
      go_simp
      have h9 := HK.out
      revert h9
      clear HK
      go_simp
      try exact id
    refine Steps.cons ?_ ?_
    · refine FreeStep.val [] _ rfl rfl fun u β W hW hn fr hfr K hK => ?_
      simp only [frameL, putL, Act.put, List.setIfInBounds_toArray, List.set_cons_zero, List.set_cons_succ, Nat.zero_add, Nat.reduceAdd] at hfr
      subst hfr
      have e7 : u 7 = .pointer (some ⟨w.heap.size, 0, none⟩) := Have.get (k := 7) hn rfl
      have e6 : u 6 = .bool false := Have.get (k := 6) hn rfl
      simp only [e7, e6] at hK
      have c0 := cellL (t1.cell 0 _ rfl) hW
      have HK := Lib.hid hK
      clear hK hn
      go_simp
      have h9 := HK.out
      revert h9
      clear HK
      go_simp
      try exact id
    refine Steps.cons ?_ ?_
    · refine FreeStep.val [] _ rfl rfl fun u β W hW hn fr hfr K hK => ?_
      simp only [frameL, putL, Act.put, List.setIfInBounds_toArray, List.set_cons_zero, List.set_cons_succ, Nat.zero_add, Nat.reduceAdd] at hfr
      subst hfr
      have e6 : u 6 = .bool false := Have.get (k := 6) hn rfl
      simp only [e6] at hK
      have HK := Lib.hid hK
      clear hK hn
      go_simp
      have h9 := HK.out
      revert h9
      clear HK
      go_simp
      try exact id
    refine Steps.cons ?_ ?_
    · refine FreeStep.val [] _ rfl rfl fun u β W hW hn fr hfr K hK => ?_
      simp only [frameL, putL, Act.put, List.setIfInBounds_toArray, List.set_cons_zero, List.set_cons_succ, Nat.zero_add, Nat.reduceAdd] at hfr
      subst hfr
      have e9 : u 9 = .pointer (some ⟨w.heap.size + 1, 0, none⟩) := Have.get (k := 9) hn rfl
      have e6 : u 6 = .bool false := Have.get (k := 6) hn rfl
      simp only [e9, e6] at hK
      have c0 := cellL (t2.cell 0 _ rfl) hW
      have HK := Lib.hid hK
      clear hK hn
      go_simp
      have h9 := HK.out
      revert h9
      clear HK
      go_simp
      try exact id
    refine Steps.cons ?_ ?_
    · refine FreeStep.val [] _ rfl rfl fun u β W hW hn fr hfr K hK => ?_
      simp only [frameL, putL, Act.put, List.setIfInBounds_toArray, List.set_cons_zero, List.set_cons_succ, Nat.zero_add, Nat.reduceAdd] at hfr
      subst hfr
      have e8 : u 8 = .int .i64 c.stack := Have.get (k := 8) hn rfl
      have e10 : u 10 = .int .i64 d.stack := Have.get (k := 10) hn rfl
      have e6 : u 6 = .bool false := Have.get (k := 6) hn rfl
      simp only [e8, e10, e6] at hK
      have HK := Lib.hid hK
      clear hK hn
      go_simp
      have h9 := HK.out
      revert h9
      clear HK
      go_simp
      try exact id
    refine Steps.cons ?_ ?_
    · refine FreeStep.val [] _ rfl rfl fun u β W hW hn fr hfr K hK => ?_
      simp only [frameL, putL, Act.put, List.setIfInBounds_toArray, List.set_cons_zero, List.set_cons_succ, Nat.zero_add, Nat.reduceAdd] at hfr
      subst hfr
      have e11 : u 11 = .int .i64 (c.stack * d.stack) := Have.get (k := 11) hn rfl
      have e6 : u 6 = .bool false := Have.get (k := 6) hn rfl
      simp only [e11, e6] at hK
      have HK := Lib.hid hK
      clear hK hn
      go_simp
      have h9 := HK.out
      revert h9
      clear HK
      go_simp
      try exact id
    refine Steps.cons ?_ ?_
    · refine FreeStep.val [] _ rfl rfl fun u β W hW hn fr hfr K hK => ?_
      simp only [frameL, putL, Act.put, List.setIfInBounds_toArray, List.set_cons_zero, List.set_cons_succ, Nat.zero_add, Nat.reduceAdd] at hfr
      subst hfr
      have e6 : u 6 = .bool false := Have.get (k := 6) hn rfl
      have e12 : u 12 = .bool true := Have.get (k := 12) hn rfl
      simp only [e6, e12] at hK
      have HK := Lib.hid hK
      clear hK hn
      go_simp
      have h9 := HK.out
      revert h9
      clear HK
      go_simp
      try exact id
    exact Steps.nil
  case tail =>
    intro u_ β_ W hW hn hdis hbnd
    have z0 : u_ 0 = .agg #[.int .i64 c.stack, .int .i64 c.start, .slice A1 n1 k1, .slice A2 n2 k2, .slice A3 n3 k3, .slice A4 n4 k4] := Have.get (k := 0) hn rfl
    have z1 : u_ 1 = .int .i64 (n1 : Int) := Have.get (k := 1) hn rfl
    have z2 : u_ 2 = .agg #[.int .i64 d.stack, .int .i64 d.start, .slice B1 m1 j1, .slice B2 m2 j2, .slice B3 m3 j3, .slice B4 m4 j4] := Have.get (k := 2) hn rfl
    have z3 : u_ 3 = .int .i64 (m1 : Int) := Have.get (k := 3) hn rfl
    have z4 : u_ 4 = .int .i64 ((n1 : Int) * (m1 : Int)) := Have.get (k := 4) hn rfl
    have z5 : u_ 5 = .bool false := Have.get (k := 5) hn rfl
    have z6 : u_ 6 = .bool false := Have.get (k := 6) hn rfl
    have z7 : u_ 7 = .pointer (some ⟨w.heap.size, 0, none⟩) := Have.get (k := 7) hn rfl
    have z8 : u_ 8 = .int .i64 c.stack := Have.get (k := 8) hn rfl
    have z9 : u_ 9 = .pointer (some ⟨w.heap.size + 1, 0, none⟩) := Have.get (k := 9) hn rfl
    have z10 : u_ 10 = .int .i64 d.stack := Have.get (k := 10) hn rfl
    have z11 : u_ 11 = .int .i64 (c.stack * d.stack) := Have.get (k := 11) hn rfl
    have z12 : u_ 12 = .bool true := Have.get (k := 12) hn rfl
    have z13 : u_ 13 = .bool true := Have.get (k := 13) hn rfl
    rw [← frameL_eq (by kernel_rfl)]
    clear hn hdis hbnd
    simp only [frameL, putL, Act.put, List.setIfInBounds_toArray, List.set_cons_zero, List.set_cons_succ, Nat.zero_add, Nat.reduceAdd, z0, z1, z2, z3, z4, z5, z6, z7, z8, z9, z10, z11, z12, z13]
    clear z0 z1 z2 z3 z4 z5 z6 z7 z8 z9 z10 z11 z12 z13
    replace t1 := t1.later hW
    replace t2 := t2.later hW
    replace t3 := t3.later hW
    replace hB := hB.trans (hW.mono hB.size)
    generalize u_ 0 = s0; generalize u_ 1 = s1; generalize u_ 2 = s2; generalize u_ 3 = s3; generalize u_ 4 = s4; generalize u_ 5 = s5; generalize u_ 6 = s6; generalize u_ 7 = s7; generalize u_ 8 = s8; generalize u_ 9 = s9; generalize u_ 10 = s10; generalize u_ 11 = s11; generalize u_ 12 = s12; generalize u_ 13 = s13
    have hlo : w.heap.size ≤ w.heap.size + 1 + 1 := by omega
    obtain ⟨c0, c1, c2, c3, c4, c5, cl⟩ := id t3.all6
    have q0 := t3.frozen 0
    have q1 := t3.frozen 1
    have q2 := t3.frozen 2
    have q3 := t3.frozen 3
    have q4 := t3.frozen 4
    have q5 := t3.frozen 5
    have HH := Lib.hid (And.intro t3 hB)
    clear t1 t2 t3 hB
    go_wp2
    clear c0 c1 c2 c3 c4 c5 cl q0 q1 q2 q3 q4 q5
    obtain ⟨t3, hB⟩ := HH.out
    have x0_ := t3.set 0 (.int .i64 0)
    have x1_ := x0_.set 1 (.int .i64 0)
    have x2_ := x1_.set 2 (.slice none 0 0)
    have x3_ := x2_.set 3 (.slice none 0 0)
    have x4_ := x3_.set 4 (.slice none 0 0)
    have x5_ := x4_.set 5 (.slice none 0 0)
    have y0 := x5_.cell 0 (.int .i64 0) rfl
    have y1 := x5_.cell 1 (.int .i64 0) rfl
    have y2 := x5_.cell 2 (.slice none 0 0) rfl
    have y3 := x5_.cell 3 (.slice none 0 0) rfl
    have y4 := x5_.cell 4 (.slice none 0 0) rfl
    have y5 := x5_.cell 5 (.slice none 0 0) rfl
    have hBf := ((((((hB.setCell (p := ⟨w.heap.size + 1 + 1, 0, none⟩) hlo (.int .i64 0)).setCell (p := ⟨w.heap.size + 1 + 1, 1, none⟩) hlo (.int .i64 0)).setCell (p := ⟨w.heap.size + 1 + 1, 2, none⟩) hlo (.slice none 0 0)).setCell (p := ⟨w.heap.size + 1 + 1, 3, none⟩) hlo (.slice none 0 0)).setCell (p := ⟨w.heap.size + 1 + 1, 4, none⟩) hlo (.slice none 0 0)).setCell (p := ⟨w.heap.size + 1 + 1, 5, none⟩) hlo (.slice none 0 0))
    exact bodyPost_ret (v := .tuple #[.agg #[.int .i64 0, .int .i64 0, .slice none 0 0, .slice none 0 0, .slice none 0 0, .slice none 0 0], .int .i64 3]) (by simp [results, Try.results54, go_sem, y0, y1, y2, y3, y4, y5]) rfl ⟨_, [], rfl, nil_ck _ _, hBf⟩
set_option maxHeartbeats 6400000 in
set_option maxRecDepth 100000 in
theorem impl_prod_yes {base base' : Nat} {v v' : Value} {c d : Ck} {bs bs' : List Nat} (fF : Bool → Bool → Bool) (f : FuncId) (w : World) (hcf : ∀ args w, (callFunc f args).run Try.prog w = .ok (.enter f args) w)
    (hf : ∀ x y W, Calls Try.prog f #[.bool x, .bool y] W (TupPost (.bool (fF x y)) W)) (hbc : BdC c) (hbd : BdC d) (hck : CkE base w v c bs) (hdk : CkE base' w v' d bs') (hc : okM c = true) (hd : okM d = true) (h : c.accept.length * d.accept.length ≤ 40) (h' : c.stack * d.stack ≤ 80) :
    Calls Try.prog 54 #[v, v', .func (.func f) #[] #[]] w (PostV CkE (pairC fF c d) 0 w) := by
  have hck0 := hck
  have hdk0 := hdk
  obtain ⟨va, vc, vr, vi, _, _, _, _, rfl, h1, h2, h3, h4, _, _⟩ := hck
  obtain ⟨ua, uc, ur, ui, _, _, _, _, rfl, g1, g2, g3, g4, _, _⟩ := hdk
  obtain ⟨A1, k1, rfl⟩ := RowE.slice h1
  obtain ⟨A2, k2, rfl⟩ := ManyE.slice h2
  obtain ⟨A3, k3, rfl⟩ := ManyE.slice h3
  obtain ⟨A4, k4, rfl⟩ := ManyE.slice h4
  obtain ⟨B1, j1, rfl⟩ := RowE.slice g1
  obtain ⟨B2, j2, rfl⟩ := ManyE.slice g2
  obtain ⟨B3, j3, rfl⟩ := ManyE.slice g3
  obtain ⟨B4, j4, rfl⟩ := ManyE.slice g4
  have bl1 : c.accept.length ≤ 1048576 := hbc.accept
  have bl2 : d.accept.length ≤ 1048576 := hbd.accept
  have QC := Lib.hid (fun (W : World) (hW : Below w.heap.size w W) => impl_ValidChecker W hbc ((ck_ok _).later hck0 hW))
  have QD := Lib.hid (fun (W : World) (hW : Below w.heap.size w W) => impl_ValidChecker W hbd ((ck_ok _).later hdk0 hW))
  have hokc := okC_of hc
  have hokd := okC_of hd
  rw [hc] at QC
  rw [hd] at QD
  have sc : Sm c.stack := ⟨by have := hokc.st1; omega, by have := hokc.st2; omega⟩
  have sd : Sm d.stack := ⟨by have := hokd.st1; omega, by have := hokd.st2; omega⟩
  have na : Sm (c.accept.length : Int) := ⟨by omega, by have := hokc.n2; omega⟩
  have nb : Sm (d.accept.length : Int) := ⟨by omega, by have := hokd.n2; omega⟩
  have ew1 := wrap_mul na nb
  have ew2 := wrap_mul sc sd
  have QP := Lib.hid (fun (W : World) (hW : Below w.heap.size w W) => impl_paired fF f W hcf hf hokc hokd ((ck_ok _).later hck0 hW) ((ck_ok _).later hdk0 hW))
  obtain ⟨n1, hn1⟩ : ∃ n, n = c.accept.length := ⟨_, rfl⟩
  obtain ⟨m1, hm1⟩ : ∃ n, n = d.accept.length := ⟨_, rfl⟩
  have hl1 : ((c.accept.length * d.accept.length : Nat) : Int) = (c.accept.length : Int) * (d.accept.length : Int) := by simp
  rw [← hn1] at bl1 ew1 hl1 h QP QC ⊢
  rw [← hm1] at bl2 ew1 hl1 h QP QD ⊢
  have RC1 := Lib.hid (fun (W : World) => paired_cnt (s0 := c.stack) (s1 := c.start) (A := A1) (n := n1) (ka := k1) (vc := .slice A2 c.call.length k2) (vr := .slice A3 c.ret.length k3) (vi := .slice A4 c.inner.length k4) W bl1)
  have RC2 := Lib.hid (fun (W : World) => paired_cnt (s0 := d.stack) (s1 := d.start) (A := B1) (n := m1) (ka := j1) (vc := .slice B2 d.call.length j2) (vr := .slice B3 d.ret.length j3) (vi := .slice B4 d.inner.length j4) W bl2)
  obtain ⟨P, hP⟩ : ∃ P, P = pairC fF c d := ⟨_, rfl⟩
  rw [← hP] at QP
  rw [← hP]
  have hx : ¬ 40 < (n1 : Int) * (m1 : Int) := by omega
  have hxd : decide (40 < (n1 : Int) * (m1 : Int)) = false := decide_eq_false hx
  have hy : ¬ 80 < c.stack * d.stack := by omega
  have hyd : decide (80 < c.stack * d.stack) = false := decide_eq_false hy
  clear h h' hl1 hn1 hm1 hP
  generalize c.call.length = n2 at *
  generalize c.ret.length = n3 at *
  generalize c.inner.length = n4 at *
  generalize d.call.length = m2 at *
  generalize d.ret.length = m3 at *
  generalize d.inner.length = m4 at *
  have hB := (((Below.refl w.heap.size w).alloc (Nat.le_refl _) (.cells #[.int .i64 c.stack, .int .i64 c.start, .slice A1 n1 k1, .slice A2 n2 k2, .slice A3 n3 k3, .slice A4 n4 k4] 31)).alloc (by simp) (.cells #[.int .i64 d.stack, .int .i64 d.start, .slice B1 m1 j1, .slice B2 m2 j2, .slice B3 m3 j3, .slice B4 m4 j4] 31)).alloc (by simp; omega) (.cells #[.int .i64 0, .int .i64 0, .slice none 0 0, .slice none 0 0, .slice none 0 0, .slice none 0 0] 31)
  have t1 := ((Bx.new w 31 #[.int .i64 c.stack, .int .i64 c.start, .slice A1 n1 k1, .slice A2 n2 k2, .slice A3 n3 k3, .slice A4 n4 k4]).alloc (.cells #[.int .i64 d.stack, .int .i64 d.start, .slice B1 m1 j1, .slice B2 m2 j2, .slice B3 m3 j3, .slice B4 m4 j4] 31)).alloc (.cells #[.int .i64 0, .int .i64 0, .slice none 0 0, .slice none 0 0, .slice none 0 0, .slice none 0 0] 31)
  have t2 := (Bx.new (w.alloc (.cells #[.int .i64 c.stack, .int .i64 c.start, .slice A1 n1 k1, .slice A2 n2 k2, .slice A3 n3 k3, .slice A4 n4 k4] 31)) 31 #[.int .i64 d.stack, .int .i64 d.start, .slice B1 m1 j1, .slice B2 m2 j2, .slice B3 m3 j3, .slice B4 m4 j4]).alloc (.cells #[.int .i64 0, .int .i64 0, .slice none 0 0, .slice none 0 0, .slice none 0 0, .slice none 0 0] 31)
  have t3 := Bx.new ((w.alloc (.cells #[.int .i64 c.stack, .int .i64 c.start, .slice A1 n1 k1, .slice A2 n2 k2, .slice A3 n3 k3, .slice A4 n4 k4] 31)).alloc (.cells #[.int .i64 d.stack, .int .i64 d.start, .slice B1 m1 j1, .slice B2 m2 j2, .slice B3 m3 j3, .slice B4 m4 j4] 31)) 31 #[.int .i64 0, .int .i64 0, .slice none 0 0, .slice none 0 0, .slice none 0 0, .slice none 0 0]
  simp only [World.size_alloc] at t2 t3
  obtain ⟨W0, hW0⟩ : ∃ W0, W0 = ((w.alloc (.cells #[.int .i64 c.stack, .int .i64 c.start, .slice A1 n1 k1, .slice A2 n2 k2, .slice A3 n3 k3, .slice A4 n4 k4] 31)).alloc (.cells #[.int .i64 d.stack, .int .i64 d.start, .slice B1 m1 j1, .slice B2 m2 j2, .slice B3 m3 j3, .slice B4 m4 j4] 31)).alloc (.cells #[.int .i64 0, .int .i64 0, .slice none 0 0, .slice none 0 0, .slice none 0 0, .slice none 0 0] 31) := ⟨_, rfl⟩
  rw [← hW0] at t1 t2 t3 hB
  have HT := Lib.hid (And.intro t1 (And.intro t2 (And.intro t3 hB)))
  have HW0 := Lib.hid hW0
  clear hW0 t1 t2 t3 hB h1 h2 h3 h4 g1 g2 g3 g4 hck0 hdk0 hbc hbd hcf hf hc hd hokc hokd sc sd na nb
  go_enter Try.func54, Try.ntmps54
  go_upto_region 1 with fail
  rw [← HW0.out]
  obtain ⟨t1, t2, t3, hB⟩ := HT.out
  obtain ⟨x0, x1, x2, x3, x4, x5, xl⟩ := id t1.all6
  go_wp2_with fail
  refine (QC.out _ hB).mono ?_
  rintro e wa ⟨rfl, hb1⟩
  replace t1 := t1.later hb1
  replace t2 := t2.later hb1
  replace t3 := t3.later hb1
  replace hB := hB.trans (hb1.mono hB.size)
  clear x0 x1 x2 x3 x4 x5 xl hb1
  obtain ⟨x0, x1, x2, x3, x4, x5, xl⟩ := id t2.all6
  go_wp2_with fail
  refine (QD.out _ hB).mono ?_
  rintro e wb ⟨rfl, hb2⟩
  replace t1 := t1.later hb2
  replace t2 := t2.later hb2
  replace t3 := t3.later hb2
  replace hB := hB.trans (hb2.mono hB.size)
  clear x0 x1 x2 x3 x4 x5 xl hb2
  go_upto_region 3 with fail
  refine wp_region_free (by kernel_rfl) [
      .val [] (fun _ => .agg #[.int .i64 c.stack, .int .i64 c.start, .slice A1 n1 k1, .slice A2 n2 k2, .slice A3 n3 k3, .slice A4 n4 k4]),
      .val [] (fun _ => .int .i64 (n1 : Int)),
      .val [] (fun _ => .agg #[.int .i64 d.stack, .int .i64 d.start, .slice B1 m1 j1, .slice B2 m2 j2, .slice B3 m3 j3, .slice B4 m4 j4]),
      .val [] (fun _ => .int .i64 (m1 : Int)),
      .val [] (fun _ => .int .i64 ((n1 : Int) * (m1 : Int))),
      .val [] (fun _ => .bool false),
      .val [] (fun _ => .bool false),
      .val [] (fun _ => .pointer (some ⟨w.heap.size, 0, none⟩)),
      .val [] (fun _ => .int .i64 c.stack),
      .val [] (fun _ => .pointer (some ⟨w.heap.size + 1, 0, none⟩)),
      .val [] (fun _ => .int .i64 d.stack),
      .val [] (fun _ => .int .i64 (c.stack * d.stack)),
      .val [] (fun _ => .bool false),
      .val [] (fun _ => .bool false)] ?hp ?hfw ?deps ?oks ?steps ?tail
  case hp => kernel_rfl
  case hfw => kernel_rfl
  case deps => kernel_rfl
  case oks =>
    intro F hF
    simp only [List.mem_cons, List.not_mem_nil, or_false] at hF
    rcases hF with rfl | rfl | rfl | rfl | rfl | rfl | rfl | rfl | rfl | rfl | rfl | rfl | rfl | rfl
    · trivial
    · trivial
    · trivial
    · trivial
    · trivial
    · trivial
    · trivial
    · trivial
    · trivial
    · trivial
    · trivial
    · trivial
    · trivial
    · trivial
  case steps =>
    refine Steps.cons ?_ ?_
    · refine FreeStep.val [] _ rfl rfl fun u β W hW hn fr hfr K hK => ?_
      simp only [frameL, putL, Act.put, List.setIfInBounds_toArray, List.set_cons_zero, List.set_cons_succ, Nat.zero_add, Nat.reduceAdd] at hfr
      subst hfr
      have c0 := cellL (t1.cell 0 _ rfl) hW
      have c1 := cellL (t1.cell 1 _ rfl) hW
      have c2 := cellL (t1.cell 2 _ rfl) hW
      have c3 := cellL (t1.cell 3 _ rfl) hW
      have c4 := cellL (t1.cell 4 _ rfl) hW
      have c5 := cellL (t1.cell 5 _ rfl) hW
      have HK := Lib.hid hK
      clear hK hn
      go_simp
      have h9 := HK.out
      revert h9
      clear HK
      go_simp
      try exact id
    refine Steps.cons ?_ ?_
    · refine FreeStep.calm [] _ rfl rfl fun u β W hW hn fr hfr K hK => ?_
      simp only [frameL, putL, Act.put, List.setIfInBounds_toArray, List.set_cons_zero, List.set_cons_succ, Nat.zero_add, Nat.reduceAdd] at hfr
      subst hfr
      have e0 : u 0 = .agg #[.int .i64 c.stack, .int .i64 c.start, .slice A1 n1 k1, .slice A2 n2 k2, .slice A3 n3 k3, .slice A4 n4 k4] := Have.get (k := 0) hn rfl
      simp only [e0] at hK
      have Q := Lib.hid (RC1.out W)
      have HK := Lib.hid hK
      clear hK hn
      go_simp
      refine Q.out.mono ?_
      rintro e w9 ⟨rfl, hb9⟩
      exact HK.out w9 hb9
    refine Steps.cons ?_ ?_
    · refine FreeStep.val [] _ rfl rfl fun u β W hW hn fr hfr K hK => ?_
      simp only [frameL, putL, Act.put, List.setIfInBounds_toArray, List.set_cons_zero, List.set_cons_succ, Nat.zero_add, Nat.reduceAdd] at hfr
      subst hfr
      have c0 := cellL (t2.cell 0 _ rfl) hW
      have c1 := cellL (t2.cell 1 _ rfl) hW
      have c2 := cellL (t2.cell 2 _ rfl) hW
      have c3 := cellL (t2.cell 3 _ rfl) hW
      have c4 := cellL (t2.cell 4 _ rfl) hW
      have c5 := cellL (t2.cell 5 _ rfl) hW
      have HK := Lib.hid hK
      clear hK hn
      go_simp
      have h9 := HK.out
      revert h9
      clear HK
      go_simp
      try exact id
    refine Steps.cons ?_ ?_
    · refine FreeStep.calm [] _ rfl rfl fun u β W hW hn fr hfr K hK => ?_
      simp only [frameL, putL, Act.put, List.setIfInBounds_toArray, List.set_cons_zero, List.set_cons_succ, Nat.zero_add, Nat.reduceAdd] at hfr
      subst hfr
      have e2 : u 2 = .agg #[.int .i64 d.stack, .int .i64 d.start, .slice B1 m1 j1, .slice B2 m2 j2, .slice B3 m3 j3, .slice B4 m4 j4] := Have.get (k := 2) hn rfl
      simp only [e2] at hK
      have Q := Lib.hid (RC2.out W)
      have HK := Lib.hid hK
      clear hK hn
      go_simp
      refine Q.out.mono ?_
      rintro e w9 ⟨rfl, hb9⟩
      exact HK.out w9 hb9
    refine Steps.cons ?_ ?_
    · refine FreeStep.val [] _ rfl rfl fun u β W hW hn fr hfr K hK => ?_
      simp only [frameL, putL, Act.put, List.setIfInBounds_toArray, List.set_cons_zero, List.set_cons_succ, Nat.zero_add, Nat.reduceAdd] at hfr
      subst hfr
      have e1 : u 1 = .int .i64 (n1 : Int) := Have.get (k := 1) hn rfl
      have e3 : u 3 = .int .i64 (m1 : Int) := Have.get (k := 3) hn rfl
      simp only [e1, e3] at hK
      have HK := Lib.hid hK
      clear hK hn
      go_simp
      have h9 := HK.out
      revert h9
      clear HK
      go_simp
      try exact id
    refine Steps.cons ?_ ?_
    · refine FreeStep.val [] _ rfl rfl fun u β W hW hn fr hfr K hK => ?_
      simp only [frameL, putL, Act.put, List.setIfInBounds_toArray, List.set_cons_zero, List.set_cons_succ, Nat.zero_add, Nat.reduceAdd] at hfr
      subst hfr
      have e4 : u 4 = .int .i64 ((n1 : Int) * (m1 : Int)) := Have.get (k := 4) hn rfl
      simp only [e4] at hK
      have HK := Lib.hid hK
      clear hK hn
      go_simp
      have h9 := HK.out
      revert h9
      clear HK
      go_simp
      try exact id
    refine Steps.cons ?_ ?_
    · refine FreeStep.val [] _ rfl rfl fun u β W hW hn fr hfr K hK => ?_
      simp only [frameL, putL, Act.put, List.setIfInBounds_toArray, List.set_cons_zero, List.set_cons_succ, Nat.zero_add, Nat.reduceAdd] at hfr
      subst hfr
      have e5 : u 5 = .bool false := Have.get (k := 5) hn rfl
      simp only [e5] at hK
      have HK := Lib.hid hK
      clear hK hn
      go_simp
      have h9 := HK.out
      revert h9
      clear HK
      go_simp
      try exact id
    refine Steps.cons ?_ ?_
    · refine FreeStep.val [] _ rfl rfl fun u β W hW hn fr hfr K hK => ?_
      simp only [frameL, putL, Act.put, List.setIfInBounds_toArray, List.set_cons_zero, List.set_cons_succ, Nat.zero_add, Nat.reduceAdd] at hfr
      subst hfr
      have e6 : u 6 = .bool false := Have.get (k := 6) hn rfl
      simp only [e6] at hK
      have HK := Lib.hid hK
      clear hK hn
      go_simp
      have h9 := HK.out
      revert h9
      clear HK
      go_simp
      try exact id
    refine Steps.cons ?_ ?_
    · refine FreeStep.val [] _ rfl rfl fun u β W hW hn fr hfr K hK => ?_
      simp only [frameL, putL, Act.put, List.setIfInBounds_toArray, List.set_cons_zero, List.set_cons_succ, Nat.zero_add, Nat.reduceAdd] at hfr
      subst hfr
      have e7 : u 7 = .pointer (some ⟨w.heap.size, 0, none⟩) := Have.get (k := 7) hn rfl
      have e6 : u 6 = .bool false := Have.get (k := 6) hn rfl
      simp only [e7, e6] at hK
      have c0 := cellL (t1.cell 0 _ rfl) hW
      have HK := Lib.hid hK
      clear hK hn
      go_simp
      have h9 := HK.out
      revert h9
      clear HK
      go_simp
      try exact id
    refine Steps.cons ?_ ?_
    · refine FreeStep.val [] _ rfl rfl fun u β W hW hn fr hfr K hK => ?_
      simp only [frameL, putL, Act.put, List.setIfInBounds_toArray, List.set_cons_zero, List.set_cons_succ, Nat.zero_add, Nat.reduceAdd] at hfr
      subst hfr
      have e6 : u 6 = .bool false := Have.get (k := 6) hn rfl
      simp only [e6] at hK
      have HK := Lib.hid hK
      clear hK hn
      go_simp
      have h9 := HK.out
      revert h9
      clear HK
      go_simp
      try exact id
    refine Steps.cons ?_ ?_
    · refine FreeStep.val [] _ rfl rfl fun u β W hW hn fr hfr K hK => ?_
      simp only [frameL, putL, Act.put, List.setIfInBounds_toArray, List.set_cons_zero, List.set_cons_succ, Nat.zero_add, Nat.reduceAdd] at hfr
      subst hfr
      have e9 : u 9 = .pointer (some ⟨w.heap.size + 1, 0, none⟩) := Have.get (k := 9) hn rfl
      have e6 : u 6 = .bool false := Have.get (k := 6) hn rfl
      simp only [e9, e6] at hK
      have c0 := cellL (t2.cell 0 _ rfl) hW
      have HK := Lib.hid hK
      clear hK hn
      go_simp
      have h9 := HK.out
      revert h9
      clear HK
      go_simp
      try exact id
    refine Steps.cons ?_ ?_
    · refine FreeStep.val [] _ rfl rfl fun u β W hW hn fr hfr K hK => ?_
      simp only [frameL, putL, Act.put, List.setIfInBounds_toArray, List.set_cons_zero, List.set_cons_succ, Nat.zero_add, Nat.reduceAdd] at hfr
      subst hfr
      have e8 : u 8 = .int .i64 c.stack := Have.get (k := 8) hn rfl
      have e10 : u 10 = .int .i64 d.stack := Have.get (k := 10) hn rfl
      have e6 : u 6 = .bool false := Have.get (k := 6) hn rfl
      simp only [e8, e10, e6] at hK
      have HK := Lib.hid hK
      clear hK hn
      go_simp
      have h9 := HK.out
      revert h9
      clear HK
      go_simp
      try exact id
    refine Steps.cons ?_ ?_
    · refine FreeStep.val [] _ rfl rfl fun u β W hW hn fr hfr K hK => ?_
      simp only [frameL, putL, Act.put, List.setIfInBounds_toArray, List.set_cons_zero, List.set_cons_succ, Nat.zero_add, Nat.reduceAdd] at hfr
      subst hfr
      have e11 : u 11 = .int .i64 (c.stack * d.stack) := Have.get (k := 11) hn rfl
      have e6 : u 6 = .bool false := Have.get (k := 6) hn rfl
      simp only [e11, e6] at hK
      have HK := Lib.hid hK
      clear hK hn
      go_simp
      have h9 := HK.out
      revert h9
      clear HK
      go_simp
      try exact id
    refine Steps.cons ?_ ?_
    · refine FreeStep.val [] _ rfl rfl fun u β W hW hn fr hfr K hK => ?_
      simp only [frameL, putL, Act.put, List.setIfInBounds_toArray, List.set_cons_zero, List.set_cons_succ, Nat.zero_add, Nat.reduceAdd] at hfr
      subst hfr
      have e6 : u 6 = .bool false := Have.get (k := 6) hn rfl
      have e12 : u 12 = .bool false := Have.get (k := 12) hn rfl
      simp only [e6, e12] at hK
      have HK := Lib.hid hK
      clear hK hn
      go_simp
      have h9 := HK.out
      revert h9
      clear HK
      go_simp
      try exact id
    exact Steps.nil
  case tail =>
    intro u_ β_ W hW hn hdis hbnd
    have z0 : u_ 0 = .agg #[.int .i64 c.stack, .int .i64 c.start, .slice A1 n1 k1, .slice A2 n2 k2, .slice A3 n3 k3, .slice A4 n4 k4] := Have.get (k := 0) hn rfl
    have z1 : u_ 1 = .int .i64 (n1 : Int) := Have.get (k := 1) hn rfl
    have z2 : u_ 2 = .agg #[.int .i64 d.stack, .int .i64 d.start, .slice B1 m1 j1, .slice B2 m2 j2, .slice B3 m3 j3, .slice B4 m4 j4] := Have.get (k := 2) hn rfl
    have z3 : u_ 3 = .int .i64 (m1 : Int) := Have.get (k := 3) hn rfl
    have z4 : u_ 4 = .int .i64 ((n1 : Int) * (m1 : Int)) := Have.get (k := 4) hn rfl
    have z5 : u_ 5 = .bool false := Have.get (k := 5) hn rfl
    have z6 : u_ 6 = .bool false := Have.get (k := 6) hn rfl
    have z7 : u_ 7 = .pointer (some ⟨w.heap.size, 0, none⟩) := Have.get (k := 7) hn rfl
    have z8 : u_ 8 = .int .i64 c.stack := Have.get (k := 8) hn rfl
    have z9 : u_ 9 = .pointer (some ⟨w.heap.size + 1, 0, none⟩) := Have.get (k := 9) hn rfl
    have z10 : u_ 10 = .int .i64 d.stack := Have.get (k := 10) hn rfl
    have z11 : u_ 11 = .int .i64 (c.stack * d.stack) := Have.get (k := 11) hn rfl
    have z12 : u_ 12 = .bool false := Have.get (k := 12) hn rfl
    have z13 : u_ 13 = .bool false := Have.get (k := 13) hn rfl
    rw [← frameL_eq (by kernel_rfl)]
    clear hn hdis hbnd
    simp only [frameL, putL, Act.put, List.setIfInBounds_toArray, List.set_cons_zero, List.set_cons_succ, Nat.zero_add, Nat.reduceAdd, z0, z1, z2, z3, z4, z5, z6, z7, z8, z9, z10, z11, z12, z13]
    clear z0 z1 z2 z3 z4 z5 z6 z7 z8 z9 z10 z11 z12 z13
    replace t1 := t1.later hW
    replace t2 := t2.later hW
    replace t3 := t3.later hW
    replace hB := hB.trans (hW.mono hB.size)
    generalize u_ 0 = s0; generalize u_ 1 = s1; generalize u_ 2 = s2; generalize u_ 3 = s3; generalize u_ 4 = s4; generalize u_ 5 = s5; generalize u_ 6 = s6; generalize u_ 7 = s7; generalize u_ 8 = s8; generalize u_ 9 = s9; generalize u_ 10 = s10; generalize u_ 11 = s11; generalize u_ 12 = s12; generalize u_ 13 = s13
    have hT3 := t3.lt
    obtain ⟨x0, x1, x2, x3, x4, x5, xl⟩ := id t1.all6
    obtain ⟨z0, z1, z2, z3, z4, z5, zl⟩ := id t2.all6
    go_wp2_with fail
    refine (QP.out _ hB).mono ?_
    rintro e wd ⟨vP, bP, rfl, hE, hb4⟩
    replace t3 := t3.later hb4
    have hlt3 := t3.lt
    have hB4 := hB.trans (hb4.mono hB.size)
    clear x0 x1 x2 x3 x4 x5 xl z0 z1 z2 z3 z4 z5 zl t1 t2
    have hwW := hB.size
    have hl3 : w.heap.size + 1 + 1 < W.heap.size := hT3
    have hE0 := hE
    obtain ⟨p1, p2, p3, p4, e1_, e2_, e3_, e4_, rfl, f1, f2, f3, f4, hbP, hnP⟩ := hE
    obtain ⟨P1, l1, rfl⟩ := RowE.slice f1
    obtain ⟨P2, l2, rfl⟩ := ManyE.slice f2
    obtain ⟨P3, l3, rfl⟩ := ManyE.slice f3
    obtain ⟨P4, l4, rfl⟩ := ManyE.slice f4
    have hPlt := fun k hk => ((ck_ok _).lt hE0 k hk).1
    generalize P.stack = ps at *
    generalize P.start = pt at *
    generalize P.accept.length = q1 at *
    generalize P.call.length = q2 at *
    generalize P.ret.length = q3 at *
    generalize P.inner.length = q4 at *
    have hlo : w.heap.size ≤ w.heap.size + 1 + 1 := by omega
    obtain ⟨c0, c1, c2, c3, c4, c5, cl⟩ := id t3.all6
    have r0 := t3.frozen 0
    have r1 := t3.frozen 1
    have r2 := t3.frozen 2
    have r3 := t3.frozen 3
    have r4 := t3.frozen 4
    have r5 := t3.frozen 5
    have HH := Lib.hid (And.intro t3 (And.intro hB4 (And.intro hE0 (And.intro hPlt hl3))))
    clear t3 hB4 hE0 hPlt f1 f2 f3 f4 hbP hnP hB hb4
    go_wp2
    clear c0 c1 c2 c3 c4 c5 cl r0 r1 r2 r3 r4 r5
    obtain ⟨t3, hB4, hE0, hPlt, hl3⟩ := HH.out
    have x0_ := t3.set 0 (.int .i64 ps)
    have x1_ := x0_.set 1 (.int .i64 pt)
    have x2_ := x1_.set 2 (.slice P1 q1 l1)
    have x3_ := x2_.set 3 (.slice P2 q2 l2)
    have x4_ := x3_.set 4 (.slice P3 q3 l3)
    have x5_ := x4_.set 5 (.slice P4 q4 l4)
    have y0 := x5_.cell 0 (.int .i64 ps) rfl
    have y1 := x5_.cell 1 (.int .i64 pt) rfl
    have y2 := x5_.cell 2 (.slice P1 q1 l1) rfl
    have y3 := x5_.cell 3 (.slice P2 q2 l2) rfl
    have y4 := x5_.cell 4 (.slice P3 q3 l3) rfl
    have y5 := x5_.cell 5 (.slice P4 q4 l4) rfl
    have hBf := ((((((hB4.setCell (p := ⟨w.heap.size + 1 + 1, 0, none⟩) hlo (.int .i64 ps)).setCell (p := ⟨w.heap.size + 1 + 1, 1, none⟩) hlo (.int .i64 pt)).setCell (p := ⟨w.heap.size + 1 + 1, 2, none⟩) hlo (.slice P1 q1 l1)).setCell (p := ⟨w.heap.size + 1 + 1, 3, none⟩) hlo (.slice P2 q2 l2)).setCell (p := ⟨w.heap.size + 1 + 1, 4, none⟩) hlo (.slice P3 q3 l3)).setCell (p := ⟨w.heap.size + 1 + 1, 5, none⟩) hlo (.slice P4 q4 l4))
    have hE5 := keepE (ck_ok _) hE0 (Below.refl _ _) (B := w.heap.size + 1 + 1) (fun b hb => by have := hPlt b hb; omega) 0 (.int .i64 ps)
    have hE6 := keepE (ck_ok _) hE5 (Below.refl _ _) (B := w.heap.size + 1 + 1) (fun b hb => by have := hPlt b hb; omega) 1 (.int .i64 pt)
    have hE7 := keepE (ck_ok _) hE6 (Below.refl _ _) (B := w.heap.size + 1 + 1) (fun b hb => by have := hPlt b hb; omega) 2 (.slice P1 q1 l1)
    have hE8 := keepE (ck_ok _) hE7 (Below.refl _ _) (B := w.heap.size + 1 + 1) (fun b hb => by have := hPlt b hb; omega) 3 (.slice P2 q2 l2)
    have hE9 := keepE (ck_ok _) hE8 (Below.refl _ _) (B := w.heap.size + 1 + 1) (fun b hb => by have := hPlt b hb; omega) 4 (.slice P3 q3 l3)
    have hE10 := keepE (ck_ok _) hE9 (Below.refl _ _) (B := w.heap.size + 1 + 1) (fun b hb => by have := hPlt b hb; omega) 5 (.slice P4 q4 l4)
    exact bodyPost_ret (v := .tuple #[.agg #[.int .i64 ps, .int .i64 pt, .slice P1 q1 l1, .slice P2 q2 l2, .slice P3 q3 l3, .slice P4 q4 l4], .int .i64 0]) (by simp [results, Try.results54, go_sem, y0, y1, y2, y3, y4, y5]) rfl ⟨_, _, rfl, ckp_base (by omega) hE10, hBf⟩
theorem impl_product (fF : Bool → Bool → Bool) (f : FuncId) (hcf : ∀ args w, (callFunc f args).run Try.prog w = .ok (.enter f args) w) (hf : ∀ x y W, Calls Try.prog f #[.bool x, .bool y] W (TupPost (.bool (fF x y)) W))
    (c d : Ck) (base base' : Nat) (v v' : Value) (bs bs' : List Nat) (w : World) (hbc : BdC c) (hbd : BdC d) (hck : CkE base w v c bs) (hdk : CkE base' w v' d bs') :
    Calls Try.prog 54 #[v, v', .func (.func f) #[] #[]] w (PostV CkE (if okM c && okM d && okM (pairC fF c d) then pairC fF c d else nilCk) (if okM c && okM d then (if okM (pairC fF c d) then 0 else 3) else 1) w) := by
  cases hc : okM c with
  | false => exact impl_prod_no1 fF f w hcf hf hbc hbd hck hdk hc
  | true =>
  cases hd : okM d with
  | false => exact impl_prod_no2 fF f w hcf hf hbc hbd hck hdk hc hd
  | true =>
    rw [okM_pair fF (okC_of hc) (okC_of hd)]
    by_cases h1 : c.accept.length * d.accept.length ≤ 40
    · by_cases h2 : c.stack * d.stack ≤ 80
      · simp only [h1, h2, decide_true, Bool.true_and, if_true]
        exact impl_prod_yes fF f w hcf hf hbc hbd hck hdk hc hd h1 h2
      · simp only [h1, h2, decide_true, decide_false, Bool.true_and, Bool.and_false, if_true]
        exact impl_prod_stack fF f w hcf hf hbc hbd hck hdk hc hd h1 h2
    · simp only [h1, decide_false, Bool.false_and, Bool.and_false, Bool.true_and, if_true]
      exact impl_prod_big fF f w hcf hf hbc hbd hck hdk hc hd h1
theorem clo_Both (x y : Bool) (W : World) : Calls Try.prog 55 #[.bool x, .bool y] W (TupPost (.bool (x && y)) W) := by
  cases x <;> cases y
  all_goals
    go_enter Try.func55, Try.ntmps55
    go_wp2
    go_ret
    exact ⟨rfl, Below.refl _ _⟩
set_option maxHeartbeats 6400000 in
set_option maxRecDepth 100000 in
theorem impl_Both (c d : Ck) (base base' : Nat) (v v' : Value) (bs bs' : List Nat) (w : World) (hbc : BdC c) (hbd : BdC d) (hck : CkE base w v c bs) (hdk : CkE base' w v' d bs') :
    Calls Try.prog 14 #[v, v'] w (PostV CkE (if okM c && okM d && okM (pairC (fun x y => x && y) c d) then pairC (fun x y => x && y) c d else nilCk) (if okM c && okM d then (if okM (pairC (fun x y => x && y) c d) then 0 else 3) else 1) w) := by
  have hck0 := hck
  have hdk0 := hdk
  obtain ⟨va, vc, vr, vi, _, _, _, _, rfl, h1, h2, h3, h4, _, _⟩ := hck
  obtain ⟨ua, uc, ur, ui, _, _, _, _, rfl, g1, g2, g3, g4, _, _⟩ := hdk
  obtain ⟨A1, k1, rfl⟩ := RowE.slice h1
  obtain ⟨A2, k2, rfl⟩ := ManyE.slice h2
  obtain ⟨A3, k3, rfl⟩ := ManyE.slice h3
  obtain ⟨A4, k4, rfl⟩ := ManyE.slice h4
  obtain ⟨B1, j1, rfl⟩ := RowE.slice g1
  obtain ⟨B2, j2, rfl⟩ := ManyE.slice g2
  obtain ⟨B3, j3, rfl⟩ := ManyE.slice g3
  obtain ⟨B4, j4, rfl⟩ := ManyE.slice g4
  have QP := Lib.hid (fun (W : World) (hW : Below w.heap.size w W) => impl_product (fun x y => x && y) 55 (fm_cf 55 Try.f55 _ (by kernel_rfl) (by kernel_rfl) rfl) clo_Both c d _ _ _ _ _ _ W hbc hbd ((ck_ok _).later hck0 hW) ((ck_ok _).later hdk0 hW))
  generalize (if okM c && okM d && okM (pairC (fun x y => x && y) c d) then pairC (fun x y => x && y) c d else nilCk) = P at *
  generalize (if okM c && okM d then (if okM (pairC (fun x y => x && y) c d) then (0 : Int) else 3) else 1) = code at *
  generalize c.accept.length = n1 at *
  generalize d.accept.length = m1 at *
  generalize c.call.length = n2 at *
  generalize c.ret.length = n3 at *
  generalize c.inner.length = n4 at *
  generalize d.call.length = m2 at *
  generalize d.ret.length = m3 at *
  generalize d.inner.length = m4 at *
  have hB := (((Below.refl w.heap.size w).alloc (Nat.le_refl _) (.cells #[.int .i64 c.stack, .int .i64 c.start, .slice A1 n1 k1, .slice A2 n2 k2, .slice A3 n3 k3, .slice A4 n4 k4] 31)).alloc (by simp) (.cells #[.int .i64 d.stack, .int .i64 d.start, .slice B1 m1 j1, .slice B2 m2 j2, .slice B3 m3 j3, .slice B4 m4 j4] 31)).alloc (by simp; omega) (.cells #[.int .i64 0, .int .i64 0, .slice none 0 0, .slice none 0 0, .slice none 0 0, .slice none 0 0] 31)
  have t1 := ((Bx.new w 31 #[.int .i64 c.stack, .int .i64 c.start, .slice A1 n1 k1, .slice A2 n2 k2, .slice A3 n3 k3, .slice A4 n4 k4]).alloc (.cells #[.int .i64 d.stack, .int .i64 d.start, .slice B1 m1 j1, .slice B2 m2 j2, .slice B3 m3 j3, .slice B4 m4 j4] 31)).alloc (.cells #[.int .i64 0, .int .i64 0, .slice none 0 0, .slice none 0 0, .slice none 0 0, .slice none 0 0] 31)
  have t2 := (Bx.new (w.alloc (.cells #[.int .i64 c.stack, .int .i64 c.start, .slice A1 n1 k1, .slice A2 n2 k2, .slice A3 n3 k3, .slice A4 n4 k4] 31)) 31 #[.int .i64 d.stack, .int .i64 d.start, .slice B1 m1 j1, .slice B2 m2 j2, .slice B3 m3 j3, .slice B4 m4 j4]).alloc (.cells #[.int .i64 0, .int .i64 0, .slice none 0 0, .slice none 0 0, .slice none 0 0, .slice none 0 0] 31)
  have t3 := Bx.new ((w.alloc (.cells #[.int .i64 c.stack, .int .i64 c.start, .slice A1 n1 k1, .slice A2 n2 k2, .slice A3 n3 k3, .slice A4 n4 k4] 31)).alloc (.cells #[.int .i64 d.stack, .int .i64 d.start, .slice B1 m1 j1, .slice B2 m2 j2, .slice B3 m3 j3, .slice B4 m4 j4] 31)) 31 #[.int .i64 0, .int .i64 0, .slice none 0 0, .slice none 0 0, .slice none 0 0, .slice none 0 0]
  simp only [World.size_alloc] at t2 t3
  obtain ⟨W, hW⟩ : ∃ W0, W0 = ((w.alloc (.cells #[.int .i64 c.stack, .int .i64 c.start, .slice A1 n1 k1, .slice A2 n2 k2, .slice A3 n3 k3, .slice A4 n4 k4] 31)).alloc (.cells #[.int .i64 d.stack, .int .i64 d.start, .slice B1 m1 j1, .slice B2 m2 j2, .slice B3 m3 j3, .slice B4 m4 j4] 31)).alloc (.cells #[.int .i64 0, .int .i64 0, .slice none 0 0, .slice none 0 0, .slice none 0 0, .slice none 0 0] 31) := ⟨_, rfl⟩
  rw [← hW] at t1 t2 t3 hB
  have HT := Lib.hid (And.intro t1 (And.intro t2 (And.intro t3 hB)))
  have HW0 := Lib.hid hW
  clear hW t1 t2 t3 hB h1 h2 h3 h4 g1 g2 g3 g4 hck0 hdk0 hbc hbd
  go_enter Try.func14, Try.ntmps14
  go_upto_region 1 with fail
  rw [← HW0.out]
  obtain ⟨t1, t2, t3, hB⟩ := HT.out
  have hT3 := t3.lt
  obtain ⟨x0, x1, x2, x3, x4, x5, xl⟩ := id t1.all6
  obtain ⟨z0, z1, z2, z3, z4, z5, zl⟩ := id t2.all6
  go_wp2_with fail
  refine (QP.out _ hB).mono ?_
  rintro e wd ⟨vP, bP, rfl, hE, hb4⟩
  replace t3 := t3.later hb4
  have hlt3 := t3.lt
  have hB4 := hB.trans (hb4.mono hB.size)
  clear x0 x1 x2 x3 x4 x5 xl z0 z1 z2 z3 z4 z5 zl t1 t2
  have hwW := hB.size
  have hl3 : w.heap.size + 1 + 1 < W.heap.size := hT3
  have hE0 := hE
  obtain ⟨p1, p2, p3, p4, e1_, e2_, e3_, e4_, rfl, f1, f2, f3, f4, hbP, hnP⟩ := hE
  obtain ⟨P1, l1, rfl⟩ := RowE.slice f1
  obtain ⟨P2, l2, rfl⟩ := ManyE.slice f2
  obtain ⟨P3, l3, rfl⟩ := ManyE.slice f3
  obtain ⟨P4, l4, rfl⟩ := ManyE.slice f4
  have hPlt := fun k hk => ((ck_ok _).lt hE0 k hk).1
  generalize P.stack = ps at *
  generalize P.start = pt at *
  generalize P.accept.length = q1 at *
  generalize P.call.length = q2 at *
  generalize P.ret.length = q3 at *
  generalize P.inner.length = q4 at *
  have hlo : w.heap.size ≤ w.heap.size + 1 + 1 := by omega
  obtain ⟨c0, c1, c2, c3, c4, c5, cl⟩ := id t3.all6
  have r0 := t3.frozen 0
  have r1 := t3.frozen 1
  have r2 := t3.frozen 2
  have r3 := t3.frozen 3
  have r4 := t3.frozen 4
  have r5 := t3.frozen 5
  have HH := Lib.hid (And.intro t3 (And.intro hB4 (And.intro hE0 (And.intro hPlt hl3))))
  clear t3 hB4 hE0 hPlt f1 f2 f3 f4 hbP hnP hB hb4
  go_wp2
  clear c0 c1 c2 c3 c4 c5 cl r0 r1 r2 r3 r4 r5
  obtain ⟨t3, hB4, hE0, hPlt, hl3⟩ := HH.out
  have x0_ := t3.set 0 (.int .i64 ps)
  have x1_ := x0_.set 1 (.int .i64 pt)
  have x2_ := x1_.set 2 (.slice P1 q1 l1)
  have x3_ := x2_.set 3 (.slice P2 q2 l2)
  have x4_ := x3_.set 4 (.slice P3 q3 l3)
  have x5_ := x4_.set 5 (.slice P4 q4 l4)
  have y0 := x5_.cell 0 (.int .i64 ps) rfl
  have y1 := x5_.cell 1 (.int .i64 pt) rfl
  have y2 := x5_.cell 2 (.slice P1 q1 l1) rfl
  have y3 := x5_.cell 3 (.slice P2 q2 l2) rfl
  have y4 := x5_.cell 4 (.slice P3 q3 l3) rfl
  have y5 := x5_.cell 5 (.slice P4 q4 l4) rfl
  have hBf := ((((((hB4.setCell (p := ⟨w.heap.size + 1 + 1, 0, none⟩) hlo (.int .i64 ps)).setCell (p := ⟨w.heap.size + 1 + 1, 1, none⟩) hlo (.int .i64 pt)).setCell (p := ⟨w.heap.size + 1 + 1, 2, none⟩) hlo (.slice P1 q1 l1)).setCell (p := ⟨w.heap.size + 1 + 1, 3, none⟩) hlo (.slice P2 q2 l2)).setCell (p := ⟨w.heap.size + 1 + 1, 4, none⟩) hlo (.slice P3 q3 l3)).setCell (p := ⟨w.heap.size + 1 + 1, 5, none⟩) hlo (.slice P4 q4 l4))
  have hE5 := keepE (ck_ok _) hE0 (Below.refl _ _) (B := w.heap.size + 1 + 1) (fun b hb => by have := hPlt b hb; omega) 0 (.int .i64 ps)
  have hE6 := keepE (ck_ok _) hE5 (Below.refl _ _) (B := w.heap.size + 1 + 1) (fun b hb => by have := hPlt b hb; omega) 1 (.int .i64 pt)
  have hE7 := keepE (ck_ok _) hE6 (Below.refl _ _) (B := w.heap.size + 1 + 1) (fun b hb => by have := hPlt b hb; omega) 2 (.slice P1 q1 l1)
  have hE8 := keepE (ck_ok _) hE7 (Below.refl _ _) (B := w.heap.size + 1 + 1) (fun b hb => by have := hPlt b hb; omega) 3 (.slice P2 q2 l2)
  have hE9 := keepE (ck_ok _) hE8 (Below.refl _ _) (B := w.heap.size + 1 + 1) (fun b hb => by have := hPlt b hb; omega) 4 (.slice P3 q3 l3)
  have hE10 := keepE (ck_ok _) hE9 (Below.refl _ _) (B := w.heap.size + 1 + 1) (fun b hb => by have := hPlt b hb; omega) 5 (.slice P4 q4 l4)
  exact bodyPost_ret (v := .tuple #[.agg #[.int .i64 ps, .int .i64 pt, .slice P1 q1 l1, .slice P2 q2 l2, .slice P3 q3 l3, .slice P4 q4 l4], .int .i64 code]) (by simp [results, Try.results14, go_sem, y0, y1, y2, y3, y4, y5]) rfl ⟨_, _, rfl, ckp_base (by omega) hE10, hBf⟩
theorem clo_Either (x y : Bool) (W : World) : Calls Try.prog 68 #[.bool x, .bool y] W (TupPost (.bool (x || y)) W) := by
  cases x <;> cases y
  all_goals
    go_enter Try.func68, Try.ntmps68
    go_wp2
    go_ret
    exact ⟨rfl, Below.refl _ _⟩
set_option maxHeartbeats 6400000 in
set_option maxRecDepth 100000 in
theorem impl_Either (c d : Ck) (base base' : Nat) (v v' : Value) (bs bs' : List Nat) (w : World) (hbc : BdC c) (hbd : BdC d) (hck : CkE base w v c bs) (hdk : CkE base' w v' d bs') :
    Calls Try.prog 19 #[v, v'] w (PostV CkE (if okM c && okM d && okM (pairC (fun x y => x || y) c d) then pairC (fun x y => x || y) c d else nilCk) (if okM c && okM d then (if okM (pairC (fun x y => x || y) c d) then 0 else 3) else 1) w) := by
  have hck0 := hck
  have hdk0 := hdk
  obtain ⟨va, vc, vr, vi, _, _, _, _, rfl, h1, h2, h3, h4, _, _⟩ := hck
  obtain ⟨ua, uc, ur, ui, _, _, _, _, rfl, g1, g2, g3, g4, _, _⟩ := hdk
  obtain ⟨A1, k1, rfl⟩ := RowE.slice h1
  obtain ⟨A2, k2, rfl⟩ := ManyE.slice h2
  obtain ⟨A3, k3, rfl⟩ := ManyE.slice h3
  obtain ⟨A4, k4, rfl⟩ := ManyE.slice h4
  obtain ⟨B1, j1, rfl⟩ := RowE.slice g1
  obtain ⟨B2, j2, rfl⟩ := ManyE.slice g2
  obtain ⟨B3, j3, rfl⟩ := ManyE.slice g3
  obtain ⟨B4, j4, rfl⟩ := ManyE.slice g4
  have QP := Lib.hid (fun (W : World) (hW : Below w.heap.size w W) => impl_product (fun x y => x || y) 68 (fm_cf 68 Try.f68 _ (by kernel_rfl) (by kernel_rfl) rfl) clo_Either c d _ _ _ _ _ _ W hbc hbd ((ck_ok _).later hck0 hW) ((ck_ok _).later hdk0 hW))
  generalize (if okM c && okM d && okM (pairC (fun x y => x || y) c d) then pairC (fun x y => x || y) c d else nilCk) = P at *
  generalize (if okM c && okM d then (if okM (pairC (fun x y => x || y) c d) then (0 : Int) else 3) else 1) = code at *
  generalize c.accept.length = n1 at *
  generalize d.accept.length = m1 at *
  generalize c.call.length = n2 at *
  generalize c.ret.length = n3 at *
  generalize c.inner.length = n4 at *
  generalize d.call.length = m2 at *
  generalize d.ret.length = m3 at *
  generalize d.inner.length = m4 at *
  have hB := (((Below.refl w.heap.size w).alloc (Nat.le_refl _) (.cells #[.int .i64 c.stack, .int .i64 c.start, .slice A1 n1 k1, .slice A2 n2 k2, .slice A3 n3 k3, .slice A4 n4 k4] 31)).alloc (by simp) (.cells #[.int .i64 d.stack, .int .i64 d.start, .slice B1 m1 j1, .slice B2 m2 j2, .slice B3 m3 j3, .slice B4 m4 j4] 31)).alloc (by simp; omega) (.cells #[.int .i64 0, .int .i64 0, .slice none 0 0, .slice none 0 0, .slice none 0 0, .slice none 0 0] 31)
  have t1 := ((Bx.new w 31 #[.int .i64 c.stack, .int .i64 c.start, .slice A1 n1 k1, .slice A2 n2 k2, .slice A3 n3 k3, .slice A4 n4 k4]).alloc (.cells #[.int .i64 d.stack, .int .i64 d.start, .slice B1 m1 j1, .slice B2 m2 j2, .slice B3 m3 j3, .slice B4 m4 j4] 31)).alloc (.cells #[.int .i64 0, .int .i64 0, .slice none 0 0, .slice none 0 0, .slice none 0 0, .slice none 0 0] 31)
  have t2 := (Bx.new (w.alloc (.cells #[.int .i64 c.stack, .int .i64 c.start, .slice A1 n1 k1, .slice A2 n2 k2, .slice A3 n3 k3, .slice A4 n4 k4] 31)) 31 #[.int .i64 d.stack, .int .i64 d.start, .slice B1 m1 j1, .slice B2 m2 j2, .slice B3 m3 j3, .slice B4 m4 j4]).alloc (.cells #[.int .i64 0, .int .i64 0, .slice none 0 0, .slice none 0 0, .slice none 0 0, .slice none 0 0] 31)
  have t3 := Bx.new ((w.alloc (.cells #[.int .i64 c.stack, .int .i64 c.start, .slice A1 n1 k1, .slice A2 n2 k2, .slice A3 n3 k3, .slice A4 n4 k4] 31)).alloc (.cells #[.int .i64 d.stack, .int .i64 d.start, .slice B1 m1 j1, .slice B2 m2 j2, .slice B3 m3 j3, .slice B4 m4 j4] 31)) 31 #[.int .i64 0, .int .i64 0, .slice none 0 0, .slice none 0 0, .slice none 0 0, .slice none 0 0]
  simp only [World.size_alloc] at t2 t3
  obtain ⟨W, hW⟩ : ∃ W0, W0 = ((w.alloc (.cells #[.int .i64 c.stack, .int .i64 c.start, .slice A1 n1 k1, .slice A2 n2 k2, .slice A3 n3 k3, .slice A4 n4 k4] 31)).alloc (.cells #[.int .i64 d.stack, .int .i64 d.start, .slice B1 m1 j1, .slice B2 m2 j2, .slice B3 m3 j3, .slice B4 m4 j4] 31)).alloc (.cells #[.int .i64 0, .int .i64 0, .slice none 0 0, .slice none 0 0, .slice none 0 0, .slice none 0 0] 31) := ⟨_, rfl⟩
  rw [← hW] at t1 t2 t3 hB
  have HT := Lib.hid (And.intro t1 (And.intro t2 (And.intro t3 hB)))
  have HW0 := Lib.hid hW
  clear hW t1 t2 t3 hB h1 h2 h3 h4 g1 g2 g3 g4 hck0 hdk0 hbc hbd
  go_enter Try.func19, Try.ntmps19
  go_upto_region 1 with fail
  rw [← HW0.out]
  obtain ⟨t1, t2, t3, hB⟩ := HT.out
  have hT3 := t3.lt
  obtain ⟨x0, x1, x2, x3, x4, x5, xl⟩ := id t1.all6
  obtain ⟨z0, z1, z2, z3, z4, z5, zl⟩ := id t2.all6
  go_wp2_with fail
  refine (QP.out _ hB).mono ?_
  rintro e wd ⟨vP, bP, rfl, hE, hb4⟩
  replace t3 := t3.later hb4
  have hlt3 := t3.lt
  have hB4 := hB.trans (hb4.mono hB.size)
  clear x0 x1 x2 x3 x4 x5 xl z0 z1 z2 z3 z4 z5 zl t1 t2
  have hwW := hB.size
  have hl3 : w.heap.size + 1 + 1 < W.heap.size := hT3
  have hE0 := hE
  obtain ⟨p1, p2, p3, p4, e1_, e2_, e3_, e4_, rfl, f1, f2, f3, f4, hbP, hnP⟩ := hE
  obtain ⟨P1, l1, rfl⟩ := RowE.slice f1
  obtain ⟨P2, l2, rfl⟩ := ManyE.slice f2
  obtain ⟨P3, l3, rfl⟩ := ManyE.slice f3
  obtain ⟨P4, l4, rfl⟩ := ManyE.slice f4
  have hPlt := fun k hk => ((ck_ok _).lt hE0 k hk).1
  generalize P.stack = ps at *
  generalize P.start = pt at *
  generalize P.accept.length = q1 at *
  generalize P.call.length = q2 at *
  generalize P.ret.length = q3 at *
  generalize P.inner.length = q4 at *
  have hlo : w.heap.size ≤ w.heap.size + 1 + 1 := by omega
  obtain ⟨c0, c1, c2, c3, c4, c5, cl⟩ := id t3.all6
  have r0 := t3.frozen 0
  have r1 := t3.frozen 1
  have r2 := t3.frozen 2
  have r3 := t3.frozen 3
  have r4 := t3.frozen 4
  have r5 := t3.frozen 5
  have HH := Lib.hid (And.intro t3 (And.intro hB4 (And.intro hE0 (And.intro hPlt hl3))))
  clear t3 hB4 hE0 hPlt f1 f2 f3 f4 hbP hnP hB hb4
  go_wp2
  clear c0 c1 c2 c3 c4 c5 cl r0 r1 r2 r3 r4 r5
  obtain ⟨t3, hB4, hE0, hPlt, hl3⟩ := HH.out
  have x0_ := t3.set 0 (.int .i64 ps)
  have x1_ := x0_.set 1 (.int .i64 pt)
  have x2_ := x1_.set 2 (.slice P1 q1 l1)
  have x3_ := x2_.set 3 (.slice P2 q2 l2)
  have x4_ := x3_.set 4 (.slice P3 q3 l3)
  have x5_ := x4_.set 5 (.slice P4 q4 l4)
  have y0 := x5_.cell 0 (.int .i64 ps) rfl
  have y1 := x5_.cell 1 (.int .i64 pt) rfl
  have y2 := x5_.cell 2 (.slice P1 q1 l1) rfl
  have y3 := x5_.cell 3 (.slice P2 q2 l2) rfl
  have y4 := x5_.cell 4 (.slice P3 q3 l3) rfl
  have y5 := x5_.cell 5 (.slice P4 q4 l4) rfl
  have hBf := ((((((hB4.setCell (p := ⟨w.heap.size + 1 + 1, 0, none⟩) hlo (.int .i64 ps)).setCell (p := ⟨w.heap.size + 1 + 1, 1, none⟩) hlo (.int .i64 pt)).setCell (p := ⟨w.heap.size + 1 + 1, 2, none⟩) hlo (.slice P1 q1 l1)).setCell (p := ⟨w.heap.size + 1 + 1, 3, none⟩) hlo (.slice P2 q2 l2)).setCell (p := ⟨w.heap.size + 1 + 1, 4, none⟩) hlo (.slice P3 q3 l3)).setCell (p := ⟨w.heap.size + 1 + 1, 5, none⟩) hlo (.slice P4 q4 l4))
  have hE5 := keepE (ck_ok _) hE0 (Below.refl _ _) (B := w.heap.size + 1 + 1) (fun b hb => by have := hPlt b hb; omega) 0 (.int .i64 ps)
  have hE6 := keepE (ck_ok _) hE5 (Below.refl _ _) (B := w.heap.size + 1 + 1) (fun b hb => by have := hPlt b hb; omega) 1 (.int .i64 pt)
  have hE7 := keepE (ck_ok _) hE6 (Below.refl _ _) (B := w.heap.size + 1 + 1) (fun b hb => by have := hPlt b hb; omega) 2 (.slice P1 q1 l1)
  have hE8 := keepE (ck_ok _) hE7 (Below.refl _ _) (B := w.heap.size + 1 + 1) (fun b hb => by have := hPlt b hb; omega) 3 (.slice P2 q2 l2)
  have hE9 := keepE (ck_ok _) hE8 (Below.refl _ _) (B := w.heap.size + 1 + 1) (fun b hb => by have := hPlt b hb; omega) 4 (.slice P3 q3 l3)
  have hE10 := keepE (ck_ok _) hE9 (Below.refl _ _) (B := w.heap.size + 1 + 1) (fun b hb => by have := hPlt b hb; omega) 5 (.slice P4 q4 l4)
  exact bodyPost_ret (v := .tuple #[.agg #[.int .i64 ps, .int .i64 pt, .slice P1 q1 l1, .slice P2 q2 l2, .slice P3 q3 l3, .slice P4 q4 l4], .int .i64 code]) (by simp [results, Try.results19, go_sem, y0, y1, y2, y3, y4, y5]) rfl ⟨_, _, rfl, ckp_base (by omega) hE10, hBf⟩
end Go.Proofs.Ytfaiifiohomdmaa
