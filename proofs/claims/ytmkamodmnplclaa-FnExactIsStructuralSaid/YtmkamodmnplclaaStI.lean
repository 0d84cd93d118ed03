/- Structural rewriters: one text, a row, a table, of the program. -/
import Derived.Test.YtmkamodmnplclaaVaK
import Derived.Test.YtmkamodmnplclaaPendingOf
namespace Go.Proofs.Ytmkamodmnplclaa
open Go.RowKit
set_option linter.unusedVariables false

/-- Whether a text has so many pending returns and calls. -/
def hasB (a b : Int) (t : ByteArray) : Bool := decide (((cR t.data.toList (prts (ksOf t.data.toList)) t.size : Nat) : Int) = a) && decide (((cC t.data.toList (prts (ksOf t.data.toList)) t.size : Nat) : Int) = b)
theorem impl_pend (s : ByteArray) (w : World) (h : IsW s) : Calls Try.prog 149 #[.string s]  w (TupPost (.tuple #[.int .i64 (cR s.data.toList (prts (ksOf s.data.toList)) s.size : Nat), .int .i64 (cC s.data.toList (prts (ksOf s.data.toList)) s.size : Nat), .int .i64 0]) w) := by
  have hc := pend_counts s.data.toList h.2 s.size (by simp)
  have h1 := impl_PendingOf_yes s w h
  rw [hc.1, hc.2] at h1
  exact h1
theorem written_om (x0 : Int) (t : ByteArray) (w : World) : Calls Try.prog 182 #[.agg #[.int .i64 x0, .string t]] w (TupPost (.string t) w) := by
  have hA := Lib.hid ((Below.refl w.heap.size w).alloc (Nat.le_refl _) (.cells #[.int .i64 x0, .string t] 78))
  go_enter Try.func182, Try.ntmps182
  go_wp2
  go_ret
  exact ⟨rfl, hA.out⟩
theorem lf1_om : ∀ args w, (callFunc 148 args).run Try.prog w = .ok (.enter 148 args) w := fun args w => entersV (fn := Try.f148) (by kernel_rfl) (by kernel_rfl) rfl args w
theorem lf2_om : ∀ args w, (callFunc 150 args).run Try.prog w = .ok (.enter 150 args) w := fun args w => entersV (fn := Try.f150) (by kernel_rfl) (by kernel_rfl) rfl args w
set_option maxHeartbeats 6400000 in
set_option maxRecDepth 100000 in
theorem other_om {B4 B5 : Nat} {a b : Int} (x : Int × ByteArray) (w : World) (hx : IsW x.2) (h4 : w.cell? ⟨B4, 0, none⟩ = some (.int .i64 a)) (h5 : w.cell? ⟨B5, 0, none⟩ = some (.int .i64 b)) :
    Calls Try.prog 148 (#[.agg #[.int .i64 x.1, .string x.2]] ++ #[.pointer (some ⟨B4, 0, none⟩), .pointer (some ⟨B5, 0, none⟩)]) w (TupPost (.bool (!hasB a b x.2)) w) := by
  obtain ⟨x0, t⟩ := x
  dsimp only at hx
  have HW := Lib.hid (fun W => written_om x0 t W)
  have HP := Lib.hid (fun W => impl_pend t W hx)
  have hA := (Below.refl w.heap.size w).alloc (Nat.le_refl _) (.cells #[.int .i64 x0, .string t] 78)
  have HA := Lib.hid hA
  have H4 := Lib.hid (And.intro h4 (World.block_lt_of_cell? _ _ h4))
  have H5 := Lib.hid (And.intro h5 (World.block_lt_of_cell? _ _ h5))
  change Calls Try.prog _ #[.agg #[.int .i64 x0, .string t], .pointer (some ⟨B4, 0, none⟩), .pointer (some ⟨B5, 0, none⟩)] w (TupPost (.bool (!hasB a b t)) w)
  unfold hasB
  generalize ((cR t.data.toList (prts (ksOf t.data.toList)) t.size : Nat) : Int) = p at *
  generalize ((cC t.data.toList (prts (ksOf t.data.toList)) t.size : Nat) : Int) = q at *
  clear hA hx h4 h5
  by_cases e1 : p = a
  case neg =>
    rw [decide_eq_false e1, Bool.false_and]
    have e2 : (p != a) = true := by simp only [bne_iff_ne]; exact e1
    go_enter Try.func148, Try.ntmps148
    go_wp2_with fail
    refine (HW.out _).mono ?_
    rintro e w1 ⟨rfl, hb1⟩
    go_wp2_with fail
    refine (HP.out _).mono ?_
    rintro e w2 ⟨rfl, hb2⟩
    have hB2 := HA.out.trans ((hb1.trans (hb2.mono hb1.size)).mono HA.out.size)
    have c4 := (hB2.cell (p := ⟨B4, 0, none⟩) H4.out.2).trans H4.out.1
    have c5 := (hB2.cell (p := ⟨B5, 0, none⟩) H5.out.2).trans H5.out.1
    go_wp2
    go_ret
    exact ⟨rfl, hB2⟩
  case pos =>
    rw [decide_eq_true e1, Bool.true_and]
    subst e1
    have e3 : (!decide (q = b)) = (q != b) := by by_cases h : q = b <;> simp [h]
    rw [e3]
    clear e3
    go_enter Try.func148, Try.ntmps148
    go_wp2_with fail
    refine (HW.out _).mono ?_
    rintro e w1 ⟨rfl, hb1⟩
    go_wp2_with fail
    refine (HP.out _).mono ?_
    rintro e w2 ⟨rfl, hb2⟩
    have hB2 := HA.out.trans ((hb1.trans (hb2.mono hb1.size)).mono HA.out.size)
    have c4 := (hB2.cell (p := ⟨B4, 0, none⟩) H4.out.2).trans H4.out.1
    have c5 := (hB2.cell (p := ⟨B5, 0, none⟩) H5.out.2).trans H5.out.1
    go_wp2
    go_ret
    exact ⟨rfl, hB2⟩
set_option maxHeartbeats 6400000 in
set_option maxRecDepth 100000 in
theorem row_om {base B4 B5 B7 : Nat} {a b : Int} {u : Value} {row : List (Int × ByteArray)} {cs : List Nat} (w : World) (hr : row.length ≤ 1048576) (hw : ∀ x ∈ row, IsW x.2) (hE : OmE base w u row cs)
    (h4 : Bx w B4 2 #[.int .i64 a]) (h5 : Bx w B5 2 #[.int .i64 b]) (h7 : w.cell? ⟨B7, 0, none⟩ = some (.func (.func 148) #[] #[.pointer (some ⟨B4, 0, none⟩), .pointer (some ⟨B5, 0, none⟩)])) :
    Calls Try.prog 150 (#[u] ++ #[.pointer (some ⟨B7, 0, none⟩)]) w (TupPost (.bool (!row.all (fun x => hasB a b x.2))) w) := by
  have HC := Lib.hid (cont_om0 w (fun x => hasB a b x.2) 148 #[.pointer (some ⟨B4, 0, none⟩), .pointer (some ⟨B5, 0, none⟩)] lf1_om hr hE (fun x hx W hW => other_om x W (hw x hx) ((h4.later hW).cell 0 _ rfl) ((h5.later hW).cell 0 _ rfl)))
  obtain ⟨A, ca, rfl⟩ := RowE.slice hE
  change Calls Try.prog _ #[.slice A row.length ca, .pointer (some ⟨B7, 0, none⟩)] w _
  generalize row.all (fun x => hasB a b x.2) = r at *
  generalize row.length = l at *
  clear hE h4 h5 hw
  go_enter Try.func150, Try.ntmps150
  go_wp2_with fail
  refine HC.out.mono ?_
  rintro e w1 ⟨rfl, hb1⟩
  go_wp2
  go_ret
  exact ⟨rfl, hb1⟩
set_option maxHeartbeats 6400000 in
set_option maxRecDepth 100000 in
theorem leaves_om {base : Nat} {a b : Int} {v : Value} {xs : List (List (Int × ByteArray))} {bs : List Nat} (w : World) (hn : Bd2 xs) (hw : ∀ row ∈ xs, ∀ x ∈ row, IsW x.2) (ha : Om2E base w v xs bs) :
    Calls Try.prog 129 #[v, .int .i64 a, .int .i64 b] w (TupPost (.bool (xs.all fun row => row.all (fun x => hasB a b x.2))) w) := by
  have hB3 := (((Below.refl w.heap.size w).alloc (Nat.le_refl _) (.cells #[.int .i64 a] 2)).alloc (by simp) (.cells #[.int .i64 b] 2)).alloc (by simp; omega) (.cells #[.func (.func 148) #[] #[.pointer (some ⟨w.heap.size, 0, none⟩), .pointer (some ⟨w.heap.size + 1, 0, none⟩)]] 146)
  have x4 := ((Bx.new w 2 #[.int .i64 a]).alloc (.cells #[.int .i64 b] 2)).alloc (.cells #[.func (.func 148) #[] #[.pointer (some ⟨w.heap.size, 0, none⟩), .pointer (some ⟨w.heap.size + 1, 0, none⟩)]] 146)
  have x5 := (Bx.new (w.alloc (.cells #[.int .i64 a] 2)) 2 #[.int .i64 b]).alloc (.cells #[.func (.func 148) #[] #[.pointer (some ⟨w.heap.size, 0, none⟩), .pointer (some ⟨w.heap.size + 1, 0, none⟩)]] 146)
  have x9 := Bx.new ((w.alloc (.cells #[.int .i64 a] 2)).alloc (.cells #[.int .i64 b] 2)) 146 #[.func (.func 148) #[] #[.pointer (some ⟨w.heap.size, 0, none⟩), .pointer (some ⟨w.heap.size + 1, 0, none⟩)]]
  have y9 := Bx.new ((w.alloc (.cells #[.int .i64 a] 2)).alloc (.cells #[.int .i64 b] 2)) 146 #[.nilFunc]
  rw [World.size_alloc] at x5
  rw [World.size_alloc, World.size_alloc] at x9 y9
  have s0 := y9.cell 0 .nilFunc rfl
  have s2 := fun W => run_store Try.prog W ⟨w.heap.size + 1 + 1, 0, none⟩ (.func (.func 148) #[] #[.pointer (some ⟨w.heap.size, 0, none⟩), .pointer (some ⟨w.heap.size + 1, 0, none⟩)]) Mode.plain rfl
  have s1 := y9.frozen 0
  obtain ⟨W3, hW3⟩ : ∃ W, W = ((w.alloc (.cells #[.int .i64 a] 2)).alloc (.cells #[.int .i64 b] 2)).alloc (.cells #[.func (.func 148) #[] #[.pointer (some ⟨w.heap.size, 0, none⟩), .pointer (some ⟨w.heap.size + 1, 0, none⟩)]] 146) := ⟨_, rfl⟩
  rw [← hW3] at hB3 x4 x5 x9
  have HW3 := Lib.hid hW3
  have HB3 := Lib.hid hB3
  have ha3 := (om2_ok _).later ha hB3
  have HC := Lib.hid (cont_om1 W3 (fun row => row.all (fun x => hasB a b x.2)) 150 #[.pointer (some ⟨w.heap.size + 1 + 1, 0, none⟩)] lf2_om hn.1 ha3 (fun x hx W u cs hW hE => row_om W (hn.2 x hx) (hw x hx) hE (x4.later hW) (x5.later hW) ((x9.later hW).cell 0 _ rfl)))
  obtain ⟨A, ca, rfl⟩ := ManyE.slice ha
  have hl0 := hn.1
  clear hB3 x4 x5 x9 y9 hW3 ha ha3 hn hw
  generalize (xs.all fun row => row.all (fun x => hasB a b x.2)) = r at *
  generalize xs.length = l at *
  go_enter Try.func129, Try.ntmps129
  go_upto_region 2 with fail
  rw [← HW3.out]
  go_wp2_with fail
  refine HC.out.mono ?_
  rintro e w1 ⟨rfl, hb1⟩
  go_wp2
  go_ret
  exact ⟨by simp, HB3.out.trans (hb1.mono HB3.out.size)⟩
theorem written_op (x0 x1 : Int) (t : ByteArray) (w : World) : Calls Try.prog 179 #[.agg #[.int .i64 x0, .int .i64 x1, .string t]] w (TupPost (.string t) w) := by
  have hA := Lib.hid ((Below.refl w.heap.size w).alloc (Nat.le_refl _) (.cells #[.int .i64 x0, .int .i64 x1, .string t] 75))
  go_enter Try.func179, Try.ntmps179
  go_wp2
  go_ret
  exact ⟨rfl, hA.out⟩
theorem lf1_op : ∀ args w, (callFunc 151 args).run Try.prog w = .ok (.enter 151 args) w := fun args w => entersV (fn := Try.f151) (by kernel_rfl) (by kernel_rfl) rfl args w
theorem lf2_op : ∀ args w, (callFunc 152 args).run Try.prog w = .ok (.enter 152 args) w := fun args w => entersV (fn := Try.f152) (by kernel_rfl) (by kernel_rfl) rfl args w
set_option maxHeartbeats 6400000 in
set_option maxRecDepth 100000 in
theorem other_op {B4 B5 : Nat} {a b : Int} (x : Int × Int × ByteArray) (w : World) (hx : IsW x.2.2) (h4 : w.cell? ⟨B4, 0, none⟩ = some (.int .i64 a)) (h5 : w.cell? ⟨B5, 0, none⟩ = some (.int .i64 b)) :
    Calls Try.prog 151 (#[.agg #[.int .i64 x.1, .int .i64 x.2.1, .string x.2.2]] ++ #[.pointer (some ⟨B4, 0, none⟩), .pointer (some ⟨B5, 0, none⟩)]) w (TupPost (.bool (!hasB a b x.2.2)) w) := by
  obtain ⟨x0, x1, t⟩ := x
  dsimp only at hx
  have HW := Lib.hid (fun W => written_op x0 x1 t W)
  have HP := Lib.hid (fun W => impl_pend t W hx)
  have hA := (Below.refl w.heap.size w).alloc (Nat.le_refl _) (.cells #[.int .i64 x0, .int .i64 x1, .string t] 75)
  have HA := Lib.hid hA
  have H4 := Lib.hid (And.intro h4 (World.block_lt_of_cell? _ _ h4))
  have H5 := Lib.hid (And.intro h5 (World.block_lt_of_cell? _ _ h5))
  change Calls Try.prog _ #[.agg #[.int .i64 x0, .int .i64 x1, .string t], .pointer (some ⟨B4, 0, none⟩), .pointer (some ⟨B5, 0, none⟩)] w (TupPost (.bool (!hasB a b t)) w)
  unfold hasB
  generalize ((cR t.data.toList (prts (ksOf t.data.toList)) t.size : Nat) : Int) = p at *
  generalize ((cC t.data.toList (prts (ksOf t.data.toList)) t.size : Nat) : Int) = q at *
  clear hA hx h4 h5
  by_cases e1 : p = a
  case neg =>
    rw [decide_eq_false e1, Bool.false_and]
    have e2 : (p != a) = true := by simp only [bne_iff_ne]; exact e1
    go_enter Try.func151, Try.ntmps151
    go_wp2_with fail
    refine (HW.out _).mono ?_
    rintro e w1 ⟨rfl, hb1⟩
    go_wp2_with fail
    refine (HP.out _).mono ?_
    rintro e w2 ⟨rfl, hb2⟩
    have hB2 := HA.out.trans ((hb1.trans (hb2.mono hb1.size)).mono HA.out.size)
    have c4 := (hB2.cell (p := ⟨B4, 0, none⟩) H4.out.2).trans H4.out.1
    have c5 := (hB2.cell (p := ⟨B5, 0, none⟩) H5.out.2).trans H5.out.1
    go_wp2
    go_ret
    exact ⟨rfl, hB2⟩
  case pos =>
    rw [decide_eq_true e1, Bool.true_and]
    subst e1
    have e3 : (!decide (q = b)) = (q != b) := by by_cases h : q = b <;> simp [h]
    rw [e3]
    clear e3
    go_enter Try.func151, Try.ntmps151
    go_wp2_with fail
    refine (HW.out _).mono ?_
    rintro e w1 ⟨rfl, hb1⟩
    go_wp2_with fail
    refine (HP.out _).mono ?_
    rintro e w2 ⟨rfl, hb2⟩
    have hB2 := HA.out.trans ((hb1.trans (hb2.mono hb1.size)).mono HA.out.size)
    have c4 := (hB2.cell (p := ⟨B4, 0, none⟩) H4.out.2).trans H4.out.1
    have c5 := (hB2.cell (p := ⟨B5, 0, none⟩) H5.out.2).trans H5.out.1
    go_wp2
    go_ret
    exact ⟨rfl, hB2⟩
set_option maxHeartbeats 6400000 in
set_option maxRecDepth 100000 in
theorem row_op {base B4 B5 B7 : Nat} {a b : Int} {u : Value} {row : List (Int × Int × ByteArray)} {cs : List Nat} (w : World) (hr : row.length ≤ 1048576) (hw : ∀ x ∈ row, IsW x.2.2) (hE : OpE base w u row cs)
    (h4 : Bx w B4 2 #[.int .i64 a]) (h5 : Bx w B5 2 #[.int .i64 b]) (h7 : w.cell? ⟨B7, 0, none⟩ = some (.func (.func 151) #[] #[.pointer (some ⟨B4, 0, none⟩), .pointer (some ⟨B5, 0, none⟩)])) :
    Calls Try.prog 152 (#[u] ++ #[.pointer (some ⟨B7, 0, none⟩)]) w (TupPost (.bool (!row.all (fun x => hasB a b x.2.2))) w) := by
  have HC := Lib.hid (cont_op0 w (fun x => hasB a b x.2.2) 151 #[.pointer (some ⟨B4, 0, none⟩), .pointer (some ⟨B5, 0, none⟩)] lf1_op hr hE (fun x hx W hW => other_op x W (hw x hx) ((h4.later hW).cell 0 _ rfl) ((h5.later hW).cell 0 _ rfl)))
  obtain ⟨A, ca, rfl⟩ := RowE.slice hE
  change Calls Try.prog _ #[.slice A row.length ca, .pointer (some ⟨B7, 0, none⟩)] w _
  generalize row.all (fun x => hasB a b x.2.2) = r at *
  generalize row.length = l at *
  clear hE h4 h5 hw
  go_enter Try.func152, Try.ntmps152
  go_wp2_with fail
  refine HC.out.mono ?_
  rintro e w1 ⟨rfl, hb1⟩
  go_wp2
  go_ret
  exact ⟨rfl, hb1⟩
set_option maxHeartbeats 6400000 in
set_option maxRecDepth 100000 in
theorem leaves_op {base : Nat} {a b : Int} {v : Value} {xs : List (List (Int × Int × ByteArray))} {bs : List Nat} (w : World) (hn : Bd2 xs) (hw : ∀ row ∈ xs, ∀ x ∈ row, IsW x.2.2) (ha : Op2E base w v xs bs) :
    Calls Try.prog 130 #[v, .int .i64 a, .int .i64 b] w (TupPost (.bool (xs.all fun row => row.all (fun x => hasB a b x.2.2))) w) := by
  have hB3 := (((Below.refl w.heap.size w).alloc (Nat.le_refl _) (.cells #[.int .i64 a] 2)).alloc (by simp) (.cells #[.int .i64 b] 2)).alloc (by simp; omega) (.cells #[.func (.func 151) #[] #[.pointer (some ⟨w.heap.size, 0, none⟩), .pointer (some ⟨w.heap.size + 1, 0, none⟩)]] 150)
  have x4 := ((Bx.new w 2 #[.int .i64 a]).alloc (.cells #[.int .i64 b] 2)).alloc (.cells #[.func (.func 151) #[] #[.pointer (some ⟨w.heap.size, 0, none⟩), .pointer (some ⟨w.heap.size + 1, 0, none⟩)]] 150)
  have x5 := (Bx.new (w.alloc (.cells #[.int .i64 a] 2)) 2 #[.int .i64 b]).alloc (.cells #[.func (.func 151) #[] #[.pointer (some ⟨w.heap.size, 0, none⟩), .pointer (some ⟨w.heap.size + 1, 0, none⟩)]] 150)
  have x9 := Bx.new ((w.alloc (.cells #[.int .i64 a] 2)).alloc (.cells #[.int .i64 b] 2)) 150 #[.func (.func 151) #[] #[.pointer (some ⟨w.heap.size, 0, none⟩), .pointer (some ⟨w.heap.size + 1, 0, none⟩)]]
  have y9 := Bx.new ((w.alloc (.cells #[.int .i64 a] 2)).alloc (.cells #[.int .i64 b] 2)) 150 #[.nilFunc]
  rw [World.size_alloc] at x5
  rw [World.size_alloc, World.size_alloc] at x9 y9
  have s0 := y9.cell 0 .nilFunc rfl
  have s2 := fun W => run_store Try.prog W ⟨w.heap.size + 1 + 1, 0, none⟩ (.func (.func 151) #[] #[.pointer (some ⟨w.heap.size, 0, none⟩), .pointer (some ⟨w.heap.size + 1, 0, none⟩)]) Mode.plain rfl
  have s1 := y9.frozen 0
  obtain ⟨W3, hW3⟩ : ∃ W, W = ((w.alloc (.cells #[.int .i64 a] 2)).alloc (.cells #[.int .i64 b] 2)).alloc (.cells #[.func (.func 151) #[] #[.pointer (some ⟨w.heap.size, 0, none⟩), .pointer (some ⟨w.heap.size + 1, 0, none⟩)]] 150) := ⟨_, rfl⟩
  rw [← hW3] at hB3 x4 x5 x9
  have HW3 := Lib.hid hW3
  have HB3 := Lib.hid hB3
  have ha3 := (op2_ok _).later ha hB3
  have HC := Lib.hid (cont_op1 W3 (fun row => row.all (fun x => hasB a b x.2.2)) 152 #[.pointer (some ⟨w.heap.size + 1 + 1, 0, none⟩)] lf2_op hn.1 ha3 (fun x hx W u cs hW hE => row_op W (hn.2 x hx) (hw x hx) hE (x4.later hW) (x5.later hW) ((x9.later hW).cell 0 _ rfl)))
  obtain ⟨A, ca, rfl⟩ := ManyE.slice ha
  have hl0 := hn.1
  clear hB3 x4 x5 x9 y9 hW3 ha ha3 hn hw
  generalize (xs.all fun row => row.all (fun x => hasB a b x.2.2)) = r at *
  generalize xs.length = l at *
  go_enter Try.func130, Try.ntmps130
  go_upto_region 2 with fail
  rw [← HW3.out]
  go_wp2_with fail
  refine HC.out.mono ?_
  rintro e w1 ⟨rfl, hb1⟩
  go_wp2
  go_ret
  exact ⟨by simp, HB3.out.trans (hb1.mono HB3.out.size)⟩
end Go.Proofs.Ytmkamodmnplclaa
