/- SameProgram of both sides. -/
import Derived.Test.YtcboalnpbmnfcaaPg
import Derived.Test.YtcboalnpbmnfcaaSame
import Derived.BigQuiet
import Derived.Deep.QuietTactic
namespace Go.Proofs.Ytcboalnpbmnfcaa
open Go.RowKit
set_option linter.unusedVariables false

theorem toList_ne {x y : ByteArray} (h : x ≠ y) : (x.toList == y.toList) = false := by
  rw [ByteArray.toList_eq, ByteArray.toList_eq]
  refine beq_eq_false_iff_ne.2 fun e => h ?_
  obtain ⟨⟨l⟩⟩ := x
  obtain ⟨⟨m⟩⟩ := y
  simp at e
  rw [e]
set_option maxHeartbeats 3200000 in
set_option maxRecDepth 100000 in
theorem equal_lks {base base' : Nat} {v v' : Value} {xs ys : List (Int × Int × Int × ByteArray)} {bs bs' : List Nat} (w : World) (hn : Bd1 xs) (hm : Bd1 ys) (ha : LkE base w v xs bs) (hb : LkE base' w v' ys bs') :
    Calls Try.prog 110 #[v, v'] w fun e w' => e = .returned (.bool (decide (xs = ys))) ∧ ∃ m, w' = w.drewN m := by
  obtain ⟨A, ca, rfl⟩ := RowE.slice ha
  obtain ⟨B, cb, rfl⟩ := RowE.slice hb
  unfold Bd1 at hn hm
  by_cases hl : xs.length = ys.length
  case neg =>
    have hne : decide (xs = ys) = false := decide_eq_false fun e => hl (by rw [e])
    have e4 : ((xs.length : Int) != (ys.length : Int)) = true := by simp; omega
    have e5 : (xs.length != ys.length) = true := by simpa using hl
    rw [hne]
    clear hne hl ha hb
    generalize xs.length = n at *
    generalize ys.length = m at *
    go_enter Try.func110, Try.ntmps110
    go_wp2
    go_ret
    exact ⟨rfl, 0, rfl⟩
  have Hl := Lib.hid hl
  rw [← hl] at hb ⊢
  clear hl hm
  obtain ⟨n, hn'⟩ : ∃ n, n = xs.length := ⟨_, rfl⟩
  have Hn := Lib.hid hn'
  rw [← hn'] at ha hb hn ⊢
  clear hn'
  go_enter Try.func110, Try.ntmps110
  go_wp2
  go_loopw [13] (fun i wr => ∃ k m : Nat, k ≤ n ∧ i = .int .i64 k ∧ wr = w.drewN m ∧ Hid (xs.take k = ys.take k)) (fun i _ => n - (intOf i).toNat)
  case atStart => exact ⟨0, 0, Nat.zero_le _, rfl, rfl, rfl⟩
  case round =>
    obtain ⟨k, m, hk, rfl, rfl, hA⟩ := hrel
    by_cases hlt : k < n
    · have hkx : k < xs.length := by rw [← Hn.out]; exact hlt
      have hky : k < ys.length := by rw [← Hl.out]; exact hkx
      obtain ⟨x, hx⟩ : ∃ x, xs[k]? = some x := ⟨_, List.getElem?_eq_getElem hkx⟩
      obtain ⟨y, hy⟩ : ∃ y, ys[k]? = some y := ⟨_, List.getElem?_eq_getElem hky⟩
      obtain ⟨g, rfl, hg, _⟩ := RowE.head ha hkx
      obtain ⟨g', rfl, hg', _⟩ := RowE.head hb hky
      obtain ⟨x0, x1, x3, x2⟩ := x
      obtain ⟨y0, y1, y3, y2⟩ := y
      have hc0 : w.cell? ⟨g, k * 4, none⟩ = _ := (LkE.cell' ha hx).1
      have hc1 : w.cell? ⟨g, k * 4 + 1, none⟩ = _ := (LkE.cell' ha hx).2.1
      have hc2 : w.cell? ⟨g, k * 4 + 2, none⟩ = _ := (LkE.cell' ha hx).2.2.1
      have hc3 : w.cell? ⟨g, k * 4 + 3, none⟩ = _ := (LkE.cell' ha hx).2.2.2
      have hc0' : w.cell? ⟨g', k * 4, none⟩ = _ := (LkE.cell' hb hy).1
      have hc1' : w.cell? ⟨g', k * 4 + 1, none⟩ = _ := (LkE.cell' hb hy).2.1
      have hc2' : w.cell? ⟨g', k * 4 + 2, none⟩ = _ := (LkE.cell' hb hy).2.2.1
      have hc3' : w.cell? ⟨g', k * 4 + 3, none⟩ = _ := (LkE.cell' hb hy).2.2.2
      dsimp only at hc0 hc1 hc2 hc3 hc0' hc1' hc2' hc3'
      by_cases hxy : (x0, x1, x3, x2) = (y0, y1, y3, y2)
      · simp only [Prod.mk.injEq] at hxy
        obtain ⟨rfl, rfl, rfl, rfl⟩ := hxy
        have hnx := Lib.hid (same_take hx hy hA.out)
        clear hkx hky hx hy hA
        go_wp2_with fail
        go_quiet (fail)
        go_wp2
        go_roundw
        case rel => exact ⟨k + 1, _, by omega, by go_num, by first | rfl | rw [World.drewN_drewN], hnx⟩
        case measure => simp [intOf]; omega
      · have hno : Hid (decide (xs = ys) = false) := decide_eq_false (not_same hx hy hxy)
        have e4 : ¬ (x0 = y0 ∧ x1 = y1 ∧ x3 = y3 ∧ x2 = y2) := by simpa using hxy
        clear hkx hky hx hy hA hxy
        by_cases h0 : x0 = y0
        · subst h0
          by_cases h1 : x1 = y1
          · subst h1
            by_cases h2 : x2 = y2
            · subst h2
              have h3 : ¬ x3 = y3 := fun e => e4 ⟨rfl, rfl, e, rfl⟩
              have e5 : (x3 == y3) = false := by simpa using h3
              have e6 : (x3 != y3) = true := by simpa using h3
              clear e4 h3
              go_wp2_with fail
              go_quiet (fail)
              go_wp2
              go_ret
              exact ⟨by rw [hno.out]; rfl, _, by first | rfl | rw [World.drewN_drewN]⟩
            · have e5 := toList_ne h2
              clear e4 h2
              go_wp2_with fail
              go_quiet (fail)
              go_wp2
              go_ret
              exact ⟨by rw [hno.out]; rfl, _, by first | rfl | rw [World.drewN_drewN]⟩
          · have e5 : (x1 == y1) = false := by simpa using h1
            have e6 : (x1 != y1) = true := by simpa using h1
            clear e4 h1
            go_wp2_with fail
            go_quiet (fail)
            go_wp2
            go_ret
            exact ⟨by rw [hno.out]; rfl, _, by first | rfl | rw [World.drewN_drewN]⟩
        · have e5 : (x0 == y0) = false := by simpa using h0
          have e6 : (x0 != y0) = true := by simpa using h0
          clear e4 h0
          go_wp2_with fail
          go_quiet (fail)
          go_wp2
          go_ret
          exact ⟨by rw [hno.out]; rfl, _, by first | rfl | rw [World.drewN_drewN]⟩
    · have e : k = n := by omega
      subst e
      have hall : Hid (decide (xs = ys) = true) := by
        have h1 := hA.out
        have h2 := Hl.out
        rw [Hn.out, List.take_length, h2, List.take_length] at h1
        exact decide_eq_true h1
      clear hA
      go_wp2
      go_ret
      exact ⟨by rw [hall.out]; rfl, m, rfl⟩

set_option maxHeartbeats 1600000 in
set_option maxRecDepth 100000 in
theorem same_mod {base base' : Nat} {u u' : Value} {xs ys : List LkT} {bs bs' : List Nat} (x y : Int) (w : World) (hn : Bd1 xs) (hm : Bd1 ys) (ha : LkE base w u xs bs) (hb : LkE base' w u' ys bs') :
    Calls Try.prog 109 #[.agg #[.int .i64 x, u], .agg #[.int .i64 y, u']] w (SeenPost (.bool (decide ((x, xs) = (y, ys)))) w) := by
  have x1 := (Bx.new w 140 #[.int .i64 x, u]).alloc (.cells #[.int .i64 y, u'] 140)
  have x2 := Bx.new (w.alloc (.cells #[.int .i64 x, u] 140)) 140 #[.int .i64 y, u']
  rw [World.size_alloc] at x2
  have hB : Below w.heap.size w ((w.alloc (.cells #[.int .i64 x, u] 140)).alloc (.cells #[.int .i64 y, u'] 140)) := ((Below.refl _ _).alloc (Nat.le_refl _) _).alloc (by simp) _
  have Q := equal_lks _ hn hm ((lk_ok _).later ha hB) ((lk_ok _).later hb hB)
  obtain ⟨p0, p1, pl⟩ := x1.all2
  obtain ⟨r0, r1, rl⟩ := x2.all2
  clear ha hb hn hm
  by_cases hxy : x = y
  · subst hxy
    have e : decide ((x, xs) = (x, ys)) = decide (xs = ys) := by simp
    rw [e]
    clear e
    generalize decide (xs = ys) = r at *
    have HQ := Lib.hid Q
    clear Q
    go_enter Try.func109, Try.ntmps109
    go_wp2_with fail
    refine HQ.out.mono ?_
    rintro e w1 ⟨rfl, m, rfl⟩
    go_wp2
    go_ret
    exact ⟨rfl, below_drewN hB m⟩
  · have e : decide ((x, xs) = (y, ys)) = false := decide_eq_false (fun h => hxy (by injection h))
    rw [e]
    have e5 : (x == y) = false := by simpa using hxy
    clear e Q
    go_enter Try.func109, Try.ntmps109
    go_wp2
    go_ret
    exact ⟨rfl, hB⟩
theorem entersP {P : Program} {f : FuncId} {fn : Func} {c : Code} (hf : P.funcs[f]? = some fn) (hname : (fn.name == "runtime.NumGoroutine") = false) (hb : fn.body = some c) (args : Array Value) (w : World) :
    (callFunc f args).run P w = .ok (.enter f args) w := by
  have h1 : fn.name ≠ "runtime.NumGoroutine" := by simpa using hname
  simp [callFunc, hf, h1, hb]
theorem md_len {base : Nat} {w : World} {v : Value} {xs : List (Int × List LkT)} {bs : List Nat} (h : MdE base w v xs bs) : ∃ A k, v = .slice A xs.length k := h.slice
set_option maxHeartbeats 3200000 in
set_option maxRecDepth 100000 in
theorem eqf_mods {base base' : Nat} {v v' : Value} {xs ys : List (Int × List LkT)} {bs bs' : List Nat} (w : World) (hn : BdMd xs) (hm : BdMd ys) (ha : MdE base w v xs bs) (hb : MdE base' w v' ys bs') :
    Calls Try.prog 108 #[v, v', .func (.func 109) #[] #[]] w (SeenPost (.bool (decide (xs = ys))) w) := by
  have Ha := Lib.hid ha
  have Hb := Lib.hid hb
  obtain ⟨A, ca, rfl⟩ := ha.slice
  obtain ⟨B, cb, rfl⟩ := hb.slice
  obtain ⟨hn, hn2⟩ := hn
  obtain ⟨hm, hm2⟩ := hm
  have Hn2 := Lib.hid hn2
  have Hm2 := Lib.hid hm2
  have hcf : ∀ args w, (callFunc 109 args).run Try.prog w = .ok (.enter 109 args) w := fun args w => entersP (fn := Try.f109) (by kernel_rfl) (by kernel_rfl) rfl args w
  clear ha hb hn2 hm2
  by_cases hl : xs.length = ys.length
  case neg =>
    have hne : decide (xs = ys) = false := decide_eq_false fun e => hl (by rw [e])
    have e4 : ((xs.length : Int) != (ys.length : Int)) = true := by simp; omega
    have e5 : (xs.length != ys.length) = true := by simpa using hl
    rw [hne]
    clear hne hl Ha Hb
    generalize xs.length = n at *
    generalize ys.length = m at *
    go_enter Try.func108, Try.ntmps108
    go_wp2
    go_ret
    exact ⟨rfl, Below.refl _ _⟩
  have Hl := Lib.hid hl
  rw [← hl] at Hb ⊢
  clear hl hm
  obtain ⟨n, hn'⟩ : ∃ n, n = xs.length := ⟨_, rfl⟩
  have Hn := Lib.hid hn'
  rw [← hn'] at Ha Hb hn ⊢
  clear hn'
  go_enter Try.func108, Try.ntmps108
  go_wp2
  go_loopw [17] (fun i wr => ∃ k : Nat, k ≤ n ∧ i = .int .i64 k ∧ Below w.heap.size w wr ∧ Hid (xs.take k = ys.take k)) (fun i _ => n - (intOf i).toNat)
  case atStart => exact ⟨0, Nat.zero_le _, rfl, Below.refl _ _, rfl⟩
  case round =>
    obtain ⟨k, hk, rfl, hB, hA⟩ := hrel
    by_cases hlt : k < n
    · have hkx : k < xs.length := by rw [← Hn.out]; exact hlt
      have hky : k < ys.length := by rw [← Hl.out]; exact hkx
      obtain ⟨x, hx⟩ : ∃ x, xs[k]? = some x := ⟨_, List.getElem?_eq_getElem hkx⟩
      obtain ⟨y, hy⟩ : ∃ y, ys[k]? = some y := ⟨_, List.getElem?_eq_getElem hky⟩
      obtain ⟨g, c1, u, cs, hv, hc0, hc1, hE, hg⟩ := Ha.out.at_ hx
      obtain ⟨g', c2, u', cs', hv', hd0, hd1, hE', hg'⟩ := Hb.out.at_ hy
      simp only [Value.slice.injEq] at hv hv'
      obtain ⟨rfl, hv1, hv2⟩ := hv
      obtain ⟨rfl, hv3, hv4⟩ := hv'
      have hbx := Hn2.out x (List.mem_of_getElem? hx)
      have hby := Hm2.out y (List.mem_of_getElem? hy)
      have q0 := (hB.cell (p := ⟨g, k * 2, none⟩) hg).trans hc0
      have q1 := (hB.cell (p := ⟨g, k * 2 + 1, none⟩) hg).trans hc1
      have r0 := (hB.cell (p := ⟨g', k * 2, none⟩) hg').trans hd0
      have r1 := (hB.cell (p := ⟨g', k * 2 + 1, none⟩) hg').trans hd1
      have hs := hB.size
      have hgr := Nat.lt_of_lt_of_le hg hs
      have hgr' := Nat.lt_of_lt_of_le hg' hs
      have hQ := fun (W : World) (hw : Below w.heap.size w W) => same_mod x.1 y.1 W hbx hby ((lk_ok _).later hE hw) ((lk_ok _).later hE' hw)
      have hB2 := fun (o1 o2 : Obj) => (hB.alloc hs o1).alloc (by rw [World.size_alloc]; omega) o2
      have HB2 := Lib.hid hB2
      obtain ⟨A1, k1, rfl⟩ := RowE.slice hE
      obtain ⟨A2, k2, rfl⟩ := RowE.slice hE'
      obtain ⟨x1, x2⟩ := x
      obtain ⟨y1, y2⟩ := y
      dsimp only at q0 q1 r0 r1 hQ
      by_cases hxy : (x1, x2) = (y1, y2)
      · have e : decide ((x1, x2) = (y1, y2)) = true := decide_eq_true hxy
        simp only [e] at hQ
        have HQ := Lib.hid hQ
        have hnx := Lib.hid (same_take hx (by rw [hxy]; exact hy) hA.out)
        clear e hxy hkx hky hx hy hA hv1 hv2 hv3 hv4 hc0 hc1 hd0 hd1 hE hE' hbx hby hQ hB2
        generalize x2.length = m1 at *
        generalize y2.length = m2 at *
        go_wp2_with fail
        refine (HQ.out _ (HB2.out _ _)).mono ?_
        rintro e w2 ⟨rfl, hb2⟩
        have hB3 := (HB2.out _ _).trans (hb2.mono (HB2.out _ _).size)
        go_wp2
        go_roundw
        case rel => exact ⟨k + 1, by omega, by go_num, hB3, hnx⟩
        case measure => simp [intOf]; omega
      · have e : decide ((x1, x2) = (y1, y2)) = false := decide_eq_false hxy
        simp only [e] at hQ
        have HQ := Lib.hid hQ
        have hno : Hid (decide (xs = ys) = false) := decide_eq_false (not_same hx hy hxy)
        clear e hxy hkx hky hx hy hA hv1 hv2 hv3 hv4 hc0 hc1 hd0 hd1 hE hE' hbx hby hQ hB2
        generalize x2.length = m1 at *
        generalize y2.length = m2 at *
        go_wp2_with fail
        refine (HQ.out _ (HB2.out _ _)).mono ?_
        rintro e w2 ⟨rfl, hb2⟩
        have hB3 := (HB2.out _ _).trans (hb2.mono (HB2.out _ _).size)
        go_wp2
        go_ret
        exact ⟨by rw [hno.out]; rfl, hB3⟩
    · have e : k = n := by omega
      subst e
      have hall : Hid (decide (xs = ys) = true) := by
        have h1 := hA.out
        have h2 := Hl.out
        rw [Hn.out, List.take_length, h2, List.take_length] at h1
        exact decide_eq_true h1
      clear hA
      go_wp2
      go_ret
      exact ⟨by rw [hall.out]; rfl, hB⟩
set_option maxHeartbeats 1600000 in
set_option maxRecDepth 100000 in
theorem impl_SameProgram {base base' : Nat} {v v' : Value} {c d : Pg} {bs bs' : List Nat} (w : World) (hc : BdPg c) (hd : BdPg d) (ha : PgE base w v c bs) (hb : PgE base' w v' d bs') :
    Calls Try.prog 37 #[v, v'] w (TupPost (.bool (decide (c.mods = d.mods))) w) := by
  obtain ⟨u, rfl, h0⟩ := ha
  obtain ⟨u', rfl, g0⟩ := hb
  have x1 := (Bx.new w 72 #[u]).alloc (.cells #[u'] 72)
  have x2 := Bx.new (w.alloc (.cells #[u] 72)) 72 #[u']
  rw [World.size_alloc] at x2
  have hB : Below w.heap.size w ((w.alloc (.cells #[u] 72)).alloc (.cells #[u'] 72)) := ((Below.refl _ _).alloc (Nat.le_refl _) _).alloc (by simp) _
  have Q := Lib.hid (eqf_mods _ hc.mods hd.mods ((md_ok _).later h0 hB) ((md_ok _).later g0 hB))
  obtain ⟨A1, k1, rfl⟩ := h0.slice
  obtain ⟨A2, k2, rfl⟩ := g0.slice
  generalize decide (c.mods = d.mods) = r at *
  generalize c.mods.length = n at *
  generalize d.mods.length = m at *
  clear h0 g0 hc hd
  obtain ⟨p0, pl⟩ := x1.all1
  obtain ⟨r0, rl⟩ := x2.all1
  go_enter Try.func37, Try.ntmps37
  go_wp2_with fail
  refine Q.out.mono ?_
  rintro e w1 ⟨rfl, hb1⟩
  go_wp2
  go_ret
  exact ⟨rfl, hB.trans (hb1.mono hB.size)⟩
end Go.Proofs.Ytcboalnpbmnfcaa
