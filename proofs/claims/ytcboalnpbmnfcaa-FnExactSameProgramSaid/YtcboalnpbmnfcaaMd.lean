/- Rows of modules; the laws' own functions on them. -/
import Derived.Test.YtcboalnpbmnfcaaMd0
import Derived.Test.YtcboalnpbmnfcaaLk
namespace Go.Proofs.Ytcboalnpbmnfcaa
open Go.RowKit Go.ChangeShapes Go.WideShapes Go.Deep
set_option linter.unusedVariables false

abbrev LkT := Int × Int × Int × ByteArray
abbrev MdE (base : Nat) : EP (List (Int × List LkT)) := Many2E base 140 (LkE base)
theorem md_ok (base : Nat) : EP.Ok base (MdE base) := Many2E.ok _ (lk_ok base)
def BdMd (xs : List (Int × List LkT)) : Prop := xs.length ≤ 1048576 ∧ ∀ x ∈ xs, Bd1 x.2
abbrev MdR : RP (List (Int × List LkT)) := Many2R LkR
theorem md_r : RP.Ok MdR := Many2R.ok lks_r
def cntMd1 (x : Int × List LkT) : Nat := cntLk x.2
def cntMd (xs : List (Int × List LkT)) : Nat := xs.length + szL cntMd1 xs
theorem bd_md {xs : List (Int × List LkT)} (h : cntMd xs ≤ 1048576) : BdMd xs := by
  unfold cntMd at h
  refine ⟨by omega, fun x hx => ?_⟩
  have m := szL_mem (sz := cntMd1) _ _ hx
  exact bd_lks (by show cntLk x.2 ≤ _; have e : cntMd1 x = cntLk x.2 := rfl; omega)
def WfMd (xs : List (Int × List LkT)) : Prop := ∀ y ∈ xs, I64 y.1 ∧ WfLk y.2
theorem md_base {b b' : Nat} (hb : b' ≤ b) (w : World) (v : Value) (x : List (Int × List LkT)) (bs : List Nat) (h : MdE b w v x bs) : MdE b' w v x bs := Many2E.base_ (lks_base hb) h hb

set_option maxHeartbeats 1600000 in
set_option maxRecDepth 100000 in
theorem eq_module {base base' : Nat} {u u' : Value} {xs : List LkT} {bs bs' : List Nat} (x : Int) (w : World) (hn : Bd1 xs) (ha : LkE base w u xs bs) (hb : LkE base' w u' xs bs') :
    Calls Try.prog 149 #[.agg #[.int .i64 x, u], .agg #[.int .i64 x, u']] w (SeenPost (.bool true) w) := by
  have x1 := (Bx.new w 140 #[.int .i64 x, u]).alloc (.cells #[.int .i64 x, u'] 140)
  have x2 := Bx.new (w.alloc (.cells #[.int .i64 x, u] 140)) 140 #[.int .i64 x, u']
  rw [World.size_alloc] at x2
  have hB : Below w.heap.size w ((w.alloc (.cells #[.int .i64 x, u] 140)).alloc (.cells #[.int .i64 x, u'] 140)) := ((Below.refl _ _).alloc (Nat.le_refl _) _).alloc (by simp) _
  have Q := Lib.hid (eq_lks _ hn ((lk_ok _).later ha hB) ((lk_ok _).later hb hB))
  clear ha hb hn
  obtain ⟨p0, p1, pl⟩ := x1.all2
  obtain ⟨r0, r1, rl⟩ := x2.all2
  go_enter Try.func149, Try.ntmps149
  go_wp2_with fail
  refine Q.out.mono ?_
  rintro e w1 ⟨rfl, hb1⟩
  go_wp2
  go_ret
  exact ⟨rfl, hB.trans (hb1.mono hB.size)⟩
set_option maxHeartbeats 1600000 in
set_option maxRecDepth 100000 in
theorem eq_modules {base base' : Nat} {v v' : Value} {xs : List (Int × List LkT)} {bs bs' : List Nat} (w : World) (hn : BdMd xs) (ha : MdE base w v xs bs) (hb : MdE base' w v' xs bs') :
    Calls Try.prog 111 #[v, v'] w (SeenPost (.bool true) w) := by
  have Ha := Lib.hid ha
  have Hb := Lib.hid hb
  obtain ⟨A, ca, rfl⟩ := ha.slice
  obtain ⟨B, cb, rfl⟩ := hb.slice
  obtain ⟨hn, hn2⟩ := hn
  have Hn2 := Lib.hid hn2
  obtain ⟨n, hn'⟩ : ∃ n, n = xs.length := ⟨_, rfl⟩
  have Hn := Lib.hid hn'
  rw [← hn'] at Ha Hb hn ⊢
  clear hn' hn2 ha hb
  go_enter Try.func111, Try.ntmps111
  go_wp2
  go_loopw [5] (fun i wr => ∃ k : Nat, k ≤ n ∧ i = .int .i64 k ∧ Below w.heap.size w wr) (fun i _ => n - (intOf i).toNat)
  case atStart => exact ⟨0, Nat.zero_le _, rfl, Below.refl _ _⟩
  case round =>
    obtain ⟨k, hk, rfl, hB⟩ := hrel
    by_cases hlt : k < n
    · have hkx : k < xs.length := by rw [← Hn.out]; exact hlt
      obtain ⟨x, hx⟩ : ∃ x, xs[k]? = some x := ⟨_, List.getElem?_eq_getElem hkx⟩
      obtain ⟨g, c1, u, cs, hv, hc0, hc1, hE, hg⟩ := Ha.out.at_ hx
      obtain ⟨g', c2, u', cs', hv', hd0, hd1, hE', hg'⟩ := Hb.out.at_ hx
      simp only [Value.slice.injEq] at hv hv'
      obtain ⟨rfl, hv1, hv2⟩ := hv
      obtain ⟨rfl, hv3, hv4⟩ := hv'
      have hbx := Hn2.out x (List.mem_of_getElem? hx)
      have q0 := (hB.cell (p := ⟨g, k * 2, none⟩) hg).trans hc0
      have q1 := (hB.cell (p := ⟨g, k * 2 + 1, none⟩) hg).trans hc1
      have r0 := (hB.cell (p := ⟨g', k * 2, none⟩) hg').trans hd0
      have r1 := (hB.cell (p := ⟨g', k * 2 + 1, none⟩) hg').trans hd1
      have hs := hB.size
      have HQ := Lib.hid fun (W : World) (hw : Below w.heap.size w W) => eq_module x.1 W hbx ((lk_ok _).later hE hw) ((lk_ok _).later hE' hw)
      have HB := Lib.hid hB
      obtain ⟨x1, x2⟩ := x
      obtain ⟨A1, k1, rfl⟩ := RowE.slice hE
      obtain ⟨A2, k2, rfl⟩ := RowE.slice hE'
      dsimp only at q0 q1 r0 r1 HQ
      have hmx : Try.prog.follows .mixedOrders = true := by kernel_rfl
      clear hkx hx hv1 hv2 hv3 hv4 hc0 hc1 hd0 hd1 hE hE' hbx hB
      generalize x2.length = m at *
      go_wp2
      go_region_with (go_at_call 149; refine (HQ.out _ (by first | exact HB.out.drew | exact HB.out)).mono ?_; rintro e w2 ⟨rfl, hb2⟩)
      all_goals
        go_wp2
        go_roundw
        case rel => exact ⟨k + 1, by omega, by go_num, by first | exact HB.out.drew.trans (hb2.mono hs) | exact HB.out.trans (hb2.mono hs)⟩
        case measure => simp [intOf]; omega
    · go_wp2
      go_ret
      exact ⟨rfl, hB⟩

def NewPostM (x : Int) (xs : List LkT) (w : World) (e : Ending) (w' : World) : Prop := ∃ v bs, e = .returned (.agg #[.int .i64 x, v]) ∧ LkE w.heap.size w' v xs bs ∧ Below w.heap.size w w'
set_option maxHeartbeats 3200000 in
set_option maxRecDepth 100000 in
theorem to_module {u : Value} {xs : List LkT} (x : Int) (w : World) (hn : Bd1 xs) (ha : LkR w u xs) : Calls Try.prog 148 #[.agg #[.int .i64 x, u]] w (NewPostM x xs w) := by
  have q1 := Lib.hid fun (W : World) (hw : Below w.heap.size w W) => to_lks W hn (lks_r.later ha hw)
  obtain ⟨W0, hW0⟩ : ∃ W0, W0 = ((w.alloc (.cells #[.int .i64 x, u] 186)).alloc (.cells #[.int .i64 0, .slice none 0 0] 140)).alloc (.cells #[.int .i64 x, .slice none 0 0] 140) := ⟨_, rfl⟩
  have x1 : Bx W0 w.heap.size 186 #[.int .i64 x, u] := by rw [hW0]; exact ((Bx.new w _ _).alloc _).alloc _
  have x2 : Bx W0 (w.heap.size + 1) 140 #[.int .i64 0, .slice none 0 0] := by
    rw [hW0]
    have := (Bx.new (w.alloc (.cells #[.int .i64 x, u] 186)) 140 #[.int .i64 0, .slice none 0 0]).alloc (.cells #[.int .i64 x, .slice none 0 0] 140)
    rwa [World.size_alloc] at this
  have x3 : Bx W0 (w.heap.size + 1 + 1) 140 #[.int .i64 x, .slice none 0 0] := by
    rw [hW0]
    have := Bx.new ((w.alloc (.cells #[.int .i64 x, u] 186)).alloc (.cells #[.int .i64 0, .slice none 0 0] 140)) 140 #[.int .i64 x, .slice none 0 0]
    rwa [World.size_alloc, World.size_alloc] at this
  have hB0 : Below w.heap.size w W0 := by rw [hW0]; exact (((Below.refl _ _).alloc (Nat.le_refl _) _).alloc (by simp) _).alloc (by simp; omega) _
  have hz0 : W0.heap.size = w.heap.size + 1 + 1 + 1 := by rw [hW0]; simp
  have HW0 := Lib.hid hW0
  have Hz0 := Lib.hid hz0
  clear hW0 hz0 ha hn
  obtain ⟨p0, p1, pl⟩ := id x1.all2
  go_enter Try.func148, Try.ntmps148
  go_wp2_with fail
  rw [← HW0.out]
  refine (q1.out _ hB0).mono ?_
  rintro e w1 ⟨v1, bs1, rfl, E1, hb1⟩
  clear p0 p1 pl
  have l1 := (lk_ok _).lt E1
  obtain ⟨A1, k1, rfl⟩ := RowE.slice E1
  have HE := Lib.hid (And.intro E1 l1)
  clear E1 l1
  generalize hnx : xs.length = n1 at *
  have Hnx := Lib.hid hnx
  clear hnx
  have y2 := x2.later hb1
  have y3 := x3.later hb1
  have hB1 := hB0.trans (hb1.mono hB0.size)
  have zf := y3.set 1 (.slice A1 n1 k1)
  have zq := y2.other 1 (.slice A1 n1 k1) (b := w.heap.size + 1 + 1) (by omega)
  have z0 := zq.set 0 (.int .i64 x)
  have z1 := z0.set 1 (.slice A1 n1 k1)
  have g0 := z1.cell 0 (.int .i64 x) rfl
  have g1 := z1.cell 1 (.slice A1 n1 k1) rfl
  have f1 := y3.frozen 1
  obtain ⟨d0, d1, dl⟩ := id y3.all2
  have m0 := zf.cell 0 (.int .i64 x) rfl
  have m1 := zf.cell 1 (.slice A1 n1 k1) rfl
  obtain ⟨e0, e1, el⟩ := id zq.all2
  have r0 := zq.frozen 0
  have r1 := zq.frozen 1
  have HF := Lib.hid (And.intro hB1 hb1.size)
  clear hB1 hb1 x1 x2 x3 y2 y3 hB0 zf zq z0 z1
  go_wp2
  refine bodyPost_ret (v := .agg #[.int .i64 x, .slice A1 n1 k1]) (by simp [results, Try.results148, go_sem, g0, g1]) rfl ?_
  have hz := Hz0.out
  have hk : ∀ b, b ≠ w.heap.size + 1 → b ≠ w.heap.size + 1 + 1 → (((w1.setCell ⟨w.heap.size + 1 + 1, 1, none⟩ (.slice A1 n1 k1)).setCell ⟨w.heap.size + 1, 0, none⟩ (.int .i64 x)).setCell ⟨w.heap.size + 1, 1, none⟩ (.slice A1 n1 k1)).heap[b]? = w1.heap[b]? := fun b h1 h2 => by
    rw [Below.heap_setCell _ _ _ b h1, Below.heap_setCell _ _ _ b h1, Below.heap_setCell _ _ _ b h2]
  have E1 := HE.out.1
  refine ⟨_, bs1, rfl, lks_base (by omega) _ _ _ _ ((lk_ok _).kept E1 (fun b hb => hk b (by have := HE.out.2 b hb; omega) (by have := HE.out.2 b hb; omega))), ?_⟩
  exact ((HF.out.1.setCell (p := ⟨w.heap.size + 1 + 1, 1, none⟩) (by show w.heap.size ≤ w.heap.size + 1 + 1; omega) _).setCell (p := ⟨w.heap.size + 1, 0, none⟩) (by show w.heap.size ≤ w.heap.size + 1; omega) _).setCell (p := ⟨w.heap.size + 1, 1, none⟩) (by show w.heap.size ≤ w.heap.size + 1; omega) _
theorem toInfo_md : (Try.prog.info? 140).map (fun i => (i.zero, i.size, i.bytes)) = some (some (.agg #[.int .i64 0, .slice none 0 0]), 2, 32) := by kernel_rfl
theorem make_mds (n : Nat) (hn : n ≤ 1048576) (w : World) :
    (Instr.makeSlice 70 (.int .i64 (n : Int)) (.int .i64 (n : Int))).run Try.prog w = .ok (.slice (some ⟨w.heap.size, 0, none⟩) n n) (w.alloc (.cells (madeCells #[.int .i64 0, .slice none 0 0] (n * 2)) 140)) := by
  obtain ⟨i, hi, hzz⟩ := Option.map_eq_some_iff.1 toInfo_md
  simp only [Prod.mk.injEq] at hzz
  obtain ⟨hz, hs, hb⟩ := hzz
  have hr := run_make (P := Try.prog) w 70 140 i _ Try.underlying70 hi hz .i64 .i64 n n (by omega) (Int.le_refl _) (by rw [hb]; omega) (by omega)
  simp only [Int.toNat_natCast, hs] at hr
  exact hr
set_option maxHeartbeats 1600000 in
set_option maxRecDepth 100000 in
theorem to_modules {v : Value} {xs : List (Int × List LkT)} (w : World) (hn : BdMd xs) (ha : MdR w v xs) : Calls Try.prog 107 #[v] w (NewPost MdE xs w) := by
  obtain ⟨A, ca, rfl, _, hA⟩ := ha
  obtain ⟨hn, hn2⟩ := hn
  obtain ⟨n, hn'⟩ : ∃ n, n = xs.length := ⟨_, rfl⟩
  have Hn := Lib.hid hn'
  have HA := Lib.hid hA
  have Hn2 := Lib.hid hn2
  rw [← hn'] at hn ⊢
  have hmk := make_mds n hn
  have hst : PartM w.heap.size w.heap.size n 140 (LkE w.heap.size) xs 0 [] [] (w.alloc (.cells (madeCells #[.int .i64 0, .slice none 0 0] (n * 2)) 140)) := PartM.start (by unfold maxLen; omega)
  have Hst := Lib.hid hst
  clear hn' hA hst hn2
  go_enter Try.func107, Try.ntmps107
  go_wp2
  go_loopw [4] (fun i wr => ∃ (j : Nat) (us : List Value) (bss : List (List Nat)), j ≤ n ∧ i = .int .i64 j ∧ PartM w.heap.size w.heap.size n 140 (LkE w.heap.size) xs j us bss wr ∧ Below w.heap.size w wr) (fun i _ => n - (intOf i).toNat)
  case atStart => exact ⟨0, [], [], Nat.zero_le _, rfl, Hst.out, (Below.refl _ _).alloc (Nat.le_refl _) _⟩
  case round =>
    obtain ⟨j, us, bss, hj, rfl, hP, hB⟩ := hrel
    by_cases hlt : j < n
    · have hjx : j < xs.length := by rw [← Hn.out]; exact hlt
      obtain ⟨x, hx⟩ : ∃ x, xs[j]? = some x := ⟨_, List.getElem?_eq_getElem hjx⟩
      obtain ⟨A', u, rfl, hl, hc0, hc1, hu⟩ := HA.out j x hx
      have hc := (hB.cell (p := A'.add (j * 2)) (by rw [add_block]; exact hl)).trans hc0
      have hc2 := (hB.cell (p := (A'.add (j * 2)).add 1) (by rw [add_block, add_block]; exact hl)).trans hc1
      rw [add_one'] at hc2
      have hs := hB.size
      have hsub := to_module x.1 wr (Hn2.out x (List.mem_of_getElem? hx)) (lks_r.later hu hB)
      have Hsub := Lib.hid hsub
      have hgl := (hP.row.lt w.heap.size rfl).2
      have Hx := Lib.hid hx
      obtain ⟨⟨Au, cu, rfl, _⟩, _⟩ := hu
      obtain ⟨x1, x2⟩ := x
      dsimp only at hc hc2 Hsub
      generalize x2.length = m at *
      clear hjx hx hc0 hc1 hsub
      go_wp2_with (go_at_call 148; refine Hsub.out.mono ?_; rintro e w2 ⟨v2, cs, rfl, hv2, hb2⟩; have hrow2 := row_below hP.row hb2; have hf := hrow2.frozenAt (j * 2); have hf2 := hrow2.frozenAt (j * 2 + 1); obtain ⟨q, hq⟩ : ∃ q, w2.cell? ⟨w.heap.size, j * 2, none⟩ = some q := (by
        have h1 := hrow2.cellAt (j * 2) (by omega)
        have h2 := hrow2.1
        rw [h1, List.getElem?_eq_getElem (by rw [h2]; omega)]
        exact ⟨_, rfl⟩); obtain ⟨q', hq'⟩ : ∃ q, w2.cell? ⟨w.heap.size, j * 2 + 1, none⟩ = some q := (by
        have h1 := hrow2.cellAt (j * 2 + 1) (by omega)
        have h2 := hrow2.1
        rw [h1, List.getElem?_eq_getElem (by rw [h2]; omega)]
        exact ⟨_, rfl⟩); obtain ⟨A2, c2, rfl⟩ := RowE.slice hv2)
      have hP2 := hP.next (x := (x1, x2)) (lk_ok _) Hn.out.symm hlt (Nat.le_refl _) Hx.out hb2 (lks_base hs _ _ _ _ hv2) (fun b hb => ((lk_ok _).lt hv2 b hb).1) ((lk_ok _).nodup hv2)
      have hB2 := ((hB.trans (hb2.mono hs)).setCell (p := ⟨w.heap.size, j * 2, none⟩) (Nat.le_refl _) (.int .i64 x1)).setCell (p := ⟨w.heap.size, j * 2 + 1, none⟩) (Nat.le_refl _) (.slice A2 x2.length c2)
      go_roundw
      case rel => exact ⟨j + 1, _, _, by omega, by go_num, hP2, hB2⟩
      case measure => simp [intOf]; omega
    · have e : j = n := by omega
      subst e
      have hD := hP.done Hn.out.symm
      go_wp2
      go_ret
      exact ⟨_, _, rfl, hD, hB⟩
set_option maxHeartbeats 1600000 in
set_option maxRecDepth 100000 in
theorem sz_module {u : Value} {xs : List LkT} (x : Int) (q : Nat) (w : World) (hq : q ≤ 1048576) (ha : LkR w u xs) : Calls Try.prog 147 #[.agg #[.int .i64 x, u], .int .i64 (q : Int)] w fun e w' => e = .returned (.int .i64 (dec q (cntLk xs))) ∧ Below w.heap.size w w' := by
  have hB := (Below.refl w.heap.size w).alloc (Nat.le_refl _) (.cells #[.int .i64 x, u] 186)
  have x1 := Bx.new w 186 #[.int .i64 x, u]
  have Q := sz_lks q _ hq (lks_r.later ha hB)
  obtain ⟨p0, p1, pl⟩ := x1.all2
  generalize cntLk xs = t at *
  clear ha
  by_cases h : t ≤ q
  · rw [dec_yes h] at Q ⊢
    have HQ := Lib.hid Q
    clear Q
    obtain ⟨r, hr⟩ : ∃ r, r = q - t := ⟨_, rfl⟩
    rw [← hr] at HQ ⊢
    clear hr h
    go_enter Try.func147, Try.ntmps147
    go_wp2_with fail
    refine HQ.out.mono ?_
    rintro e w1 ⟨rfl, hb1⟩
    go_wp2
    go_ret
    exact ⟨rfl, hB.trans (hb1.mono hB.size)⟩
  · rw [dec_no h] at Q ⊢
    have HQ := Lib.hid Q
    clear Q h
    go_enter Try.func147, Try.ntmps147
    go_wp2_with fail
    refine HQ.out.mono ?_
    rintro e w1 ⟨rfl, hb1⟩
    go_wp2
    go_ret
    exact ⟨rfl, hB.trans (hb1.mono hB.size)⟩
set_option maxHeartbeats 1600000 in
set_option maxRecDepth 100000 in
theorem sz_modules {v : Value} {xs : List (Int × List LkT)} (left : Nat) (w : World) (hl : left ≤ 1048576) (ha : MdR w v xs) : Calls Try.prog 106 #[v, .int .i64 (left : Int)] w fun e w' => e = .returned (.int .i64 (dec left (cntMd xs))) ∧ Below w.heap.size w w' := by
  obtain ⟨A, ca, rfl, hm, hA⟩ := ha
  unfold maxLen at hm
  obtain ⟨n, hn'⟩ : ∃ n, n = xs.length := ⟨_, rfl⟩
  obtain ⟨t, ht⟩ : ∃ t, t = cntMd xs := ⟨_, rfl⟩
  have htn : t = n + szL cntMd1 xs := by rw [ht, hn']; rfl
  have Hn := Lib.hid hn'
  have HA := Lib.hid hA
  have Ht := Lib.hid htn
  rw [← hn'] at hm ⊢
  rw [← ht]
  clear hn' hA ht htn
  by_cases h0 : n ≤ left
  · obtain ⟨q0, hq0⟩ : ∃ q0, q0 = left - n := ⟨_, rfl⟩
    have hq1 : q0 + n = left := by omega
    have hq2 : ((left : Int) - (n : Int)) = (q0 : Int) := by omega
    have hq3 : q0 ≤ 1048576 := by omega
    clear hq0
    have Hq1 := Lib.hid hq1
    have Hq2 := Lib.hid hq2
    clear hq1 hq2
    go_enter Try.func106, Try.ntmps106
    go_wp2
    go_loopw [1, 5] (fun l i wr => ∃ j q : Nat, j ≤ n ∧ i = .int .i64 j ∧ l = .int .i64 (q : Int) ∧ q ≤ 1048576 ∧ Hid (q + n + szL cntMd1 (xs.take j) = left) ∧ Below w.heap.size w wr) (fun _ i _ => n - (intOf i).toNat)
    case atStart => exact ⟨0, q0, Nat.zero_le _, rfl, by rw [Hq2.out], hq3, by show _ = _; rw [← Hq1.out]; simp [szL], Below.refl _ _⟩
    case round =>
      obtain ⟨j, q, hj, rfl, rfl, hq, hsum, hB⟩ := hrel
      have hsz := hB.size
      by_cases hlt : j < n
      · have hjx : j < xs.length := by rw [← Hn.out]; exact hlt
        obtain ⟨x, hx⟩ : ∃ x, xs[j]? = some x := ⟨_, List.getElem?_eq_getElem hjx⟩
        obtain ⟨A', u, rfl, hbl, hc0, hc1, hu⟩ := HA.out j x hx
        have hc := (hB.cell (p := A'.add (j * 2)) (by rw [add_block]; exact hbl)).trans hc0
        have hc2 := (hB.cell (p := (A'.add (j * 2)).add 1) (by rw [add_block, add_block]; exact hbl)).trans hc1
        rw [add_one'] at hc2
        have hss := szL_take_succ (sz := cntMd1) hx
        have hle := szL_take_le (sz := cntMd1) xs (j + 1)
        obtain ⟨y, hy⟩ : ∃ y, y = cntLk x.2 := ⟨_, rfl⟩
        have hsub := sz_module x.1 q wr hq (lks_r.later hu hB)
        rw [← hy] at hsub
        rw [show cntMd1 x = y from hy.symm] at hss
        have Hss := Lib.hid hss
        have Hle := Lib.hid hle
        obtain ⟨⟨Au, cu, rfl, _⟩, _⟩ := hu
        obtain ⟨x1, x2⟩ := x
        dsimp only at hc hc2 hsub
        generalize x2.length = m at *
        clear hss hle hjx hx hy hc0 hc1
        by_cases hyq : y ≤ q
        · rw [dec_yes hyq] at hsub
          have Hsub := Lib.hid hsub
          obtain ⟨q', hq'⟩ : ∃ q', q' = q - y := ⟨_, rfl⟩
          have hq2 : q' + y = q := by omega
          rw [← hq'] at Hsub
          clear hsub hq'
          go_wp2_with (go_at_call 147; refine Hsub.out.mono ?_; rintro e w' ⟨rfl, hb2⟩)
          go_roundw
          case rel => exact ⟨j + 1, q', by omega, by go_num, rfl, by omega, by show _ = _; have := hsum.out; have := Hss.out; omega, hB.trans (hb2.mono hsz)⟩
          case measure => simp [intOf]; omega
        · rw [dec_no hyq] at hsub
          have Hsub := Lib.hid hsub
          have hno : ¬ t ≤ left := by
            have := hsum.out
            have := Hss.out
            have := Hle.out
            have := Ht.out
            omega
          have hd := Lib.hid (dec_no hno)
          clear hsub hyq hno
          go_wp2_with (go_at_call 147; refine Hsub.out.mono ?_; rintro e w' ⟨rfl, hb2⟩)
          go_ret
          exact ⟨by rw [hd.out]; rfl, hB.trans (hb2.mono hsz)⟩
      · have e : j = n := by omega
        subst e
        have hall : q + t = left := by
          have h1 := hsum.out
          rw [Hn.out, List.take_length] at h1
          have := Ht.out
          have := Hn.out
          omega
        have hv : ((left - t : Nat) : Int) = (q : Int) := by omega
        have hd := Lib.hid ((dec_yes (left := left) (n := t) (by omega)).trans hv)
        clear hall hv hsum
        go_wp2
        go_ret
        exact ⟨by rw [hd.out]; rfl, hB⟩
  · have h' : left < n := by omega
    have hno : ¬ t ≤ left := by have := Ht.out; omega
    rw [dec_no hno]
    clear h0 hno
    go_enter Try.func106, Try.ntmps106
    go_wp2
    go_ret
    exact ⟨rfl, Below.refl _ _⟩


section
variable {H : Type} {enc : TypeId × Value → H} {w : World} {held : Bool}
theorem cells_md : Try.prog.cellsOf 186 = 2 := by kernel_rfl
theorem cells_mdi : Try.prog.cellsOf 2 = 1 := by kernel_rfl
theorem cells_mdl : Try.prog.cellsOf 184 = 1 := by kernel_rfl
set_option maxRecDepth 100000 in
theorem read_module {n : Nat} {cs : List Value} {x : DataW H × List MemPlace} (h : DataW.trod enc Try.prog w 0 (fun _ => true) held n 186 cs = some x) : ∃ (k : Int) (u : Value) (y : List LkT), cs = [.int .i64 k, u] ∧ LkR w u y ∧ (I64 (k, y).1 ∧ WfLk (k, y).2) := by
  obtain ⟨xs, m, _, _, hl, hxl, hf⟩ := DataW.trod_struct Try.underlying186 h
  rw [cells_md] at hl
  have h0 : DataW.trod enc Try.prog w 0 (fun _ => true) held m 2 ((cs.drop 0).take (Try.prog.cellsOf 2)) = xs[0]? := hf 0 _ rfl
  have h1 : DataW.trod enc Try.prog w 0 (fun _ => true) held m 184 ((cs.drop 1).take (Try.prog.cellsOf 184)) = xs[1]? := hf 1 _ rfl
  rw [cells_mdi] at h0
  rw [cells_mdl] at h1
  match cs, hl with
  | [c0, c1], _ =>
    have hx0 : xs[0]? = some (xs[0]'(by rw [hxl]; decide)) := List.getElem?_eq_getElem _
    have hx1 : xs[1]? = some (xs[1]'(by rw [hxl]; decide)) := List.getElem?_eq_getElem _
    rw [hx0] at h0
    rw [hx1] at h1
    simp only [List.drop_zero, List.drop_succ_cons, List.take_succ_cons, List.take_zero] at h0 h1
    obtain ⟨a, ha, wa⟩ := read_int h0
    obtain ⟨b, hb, wb⟩ := read_lks h1
    simp only [List.cons.injEq, and_true] at ha
    exact ⟨a, c1, b, by rw [ha], hb, wa, wb⟩
theorem read_modules {n : Nat} {v : Value} {x : DataW H × List MemPlace} (h : DataW.trod enc Try.prog w 0 (fun _ => true) held n 65 [v] = some x) : ∃ y, MdR w v y ∧ WfMd y :=
  open_many2 (wf := fun y => I64 y.1 ∧ WfLk y.2) Try.underlying65 cells_md (fun _ _ _ h => read_module h) h
end
end Go.Proofs.Ytcboalnpbmnfcaa
