/- ValidWatcher of the program. -/
import Derived.Test.YtfaiifiohomdmaaWv
import Derived.Test.YtfaiifiohomdmaaStart
namespace Go.Proofs.Ytfaiifiohomdmaa
open Go.RowKit
set_option linter.unusedVariables false

/-- Where the first of some truth values is false, or -1. -/
def badN (ps : List Bool) : Int := match ps.findIdx? (fun p => !p) with | some i => (i : Int) | none => -1
theorem badN_all (ps : List Bool) : decide ((0 : Int) ≤ badN ps) = !ps.all id := by
  unfold badN
  cases h : ps.findIdx? (fun p => !p) with
  | none =>
    rw [List.findIdx?_eq_none_iff] at h
    have : ps.all id = true := by
      rw [List.all_eq_true]
      intro x hx
      have := h x hx
      simpa using this
    rw [this]; rfl
  | some i =>
    rw [List.findIdx?_eq_some_iff_getElem] at h
    obtain ⟨hi, h1, _⟩ := h
    have : ps.all id = false := by
      rw [List.all_eq_false]
      exact ⟨ps[i], List.getElem_mem hi, by simpa using h1⟩
    rw [this]; simp
theorem badN_at {ps : List Bool} {k : Nat} (h : ps[k]? = some false) (ha : (ps.take k).all id = true) : badN ps = (k : Int) := by
  have hk := (List.getElem?_eq_some_iff.1 h).1
  have : ps.findIdx? (fun p => !p) = some k := by
    rw [List.findIdx?_eq_some_iff_getElem]
    refine ⟨hk, by rw [(List.getElem?_eq_some_iff.1 h).2]; rfl, fun j hj => ?_⟩
    rw [List.all_eq_true] at ha
    have := ha (ps[j]'(by omega)) (List.mem_of_getElem? (i := j) (by rw [List.getElem?_take, if_pos hj]; exact List.getElem?_eq_getElem (by omega)))
    simpa using this
  unfold badN
  rw [this]
theorem badN_none {ps : List Bool} (ha : ps.all id = true) : badN ps = -1 := by
  have : ps.findIdx? (fun p => !p) = none := by
    rw [List.findIdx?_eq_none_iff]
    intro x hx
    rw [List.all_eq_true] at ha
    have := ha x hx
    simpa using this
  unfold badN
  rw [this]
theorem allN_take {ps : List Bool} {k : Nat} (h : ps[k]? = some true) (ha : (ps.take k).all id = true) : (ps.take (k + 1)).all id = true := by
  rw [List.take_add_one, h]
  simp only [List.all_append, ha, Option.toList_some, List.all_cons, List.all_nil]
  rfl
set_option maxHeartbeats 6400000 in
set_option maxRecDepth 100000 in
theorem idx_vals {g n c : Nat} (vs : List Value) (ps : List Bool) (f : FuncId) (cap : Array Value) (w : World) (hcf : ∀ args w, (callFunc f args).run Try.prog w = .ok (.enter f args) w) (hn : n ≤ 1048576) (hvl : vs.length = n) (hpl : ps.length = n) (hg : g < w.heap.size)
    (hv : ∀ (j : Nat) u, vs[j]? = some u → w.cell? ⟨g, j, none⟩ = some u) (hf : ∀ (j : Nat) u p, vs[j]? = some u → ps[j]? = some p → ∀ W, Below w.heap.size w W → Calls Try.prog f (#[u] ++ cap) W (TupPost (.bool (!p)) W)) :
    Calls Try.prog 186 #[.slice (some ⟨g, 0, none⟩) n c, .func (.func f) #[] cap] w (SeenPost (.int .i64 (badN ps)) w) := by
  have Hx := Lib.hid (fun (j : Nat) (hj : j < n) => show ∃ u p, ps[j]? = some p ∧ w.cell? ⟨g, j, none⟩ = some u ∧ ∀ W, Below w.heap.size w W → Calls Try.prog f (#[u] ++ cap) W (TupPost (.bool (!p)) W) from by
    have e1 : vs[j]? = some (vs[j]'(by omega)) := List.getElem?_eq_getElem (by omega)
    have e2 : ps[j]? = some (ps[j]'(by omega)) := List.getElem?_eq_getElem (by omega)
    exact ⟨_, _, e2, hv j _ e1, hf j _ _ e1 e2⟩)
  have Hcf := Lib.hid hcf
  have Hpl := Lib.hid hpl
  clear hv hf hvl hpl hcf
  go_enter Try.func186, Try.ntmps186
  go_wp2
  go_loopw [8] (fun i wr => ∃ k : Nat, k ≤ n ∧ i = .int .i64 k ∧ Hid ((ps.take k).all id = true) ∧ Below w.heap.size w wr) (fun i _ => n - (intOf i).toNat)
  case atStart => exact ⟨0, Nat.zero_le _, rfl, rfl, Below.refl _ _⟩
  case round =>
    obtain ⟨k, hk, rfl, hA, hB⟩ := hrel
    have hs := hB.size
    by_cases hlt : k < n
    · obtain ⟨u, p, hp, hc, ht0⟩ := Hx.out k hlt
      have hc1 : wr.cell? ⟨g, k, none⟩ = some u := (hB.cell (p := ⟨g, k, none⟩) hg).trans hc
      have ht := ht0 wr hB
      have hcf := Hcf.out
      clear ht0 hc
      cases p with
      | true =>
        have Ht := Lib.hid ht
        have hnx := Lib.hid (allN_take hp hA.out)
        clear hp hA ht
        go_wp2_with fail
        clear hcf
        refine Ht.out.mono ?_
        rintro e w2 ⟨rfl, hb2⟩
        go_wp2
        go_roundw
        case rel => exact ⟨k + 1, by omega, by go_num, hnx, hB.trans (hb2.mono hs)⟩
        case measure => simp [intOf]; omega
      | false =>
        have Ht := Lib.hid ht
        have hno := Lib.hid (badN_at hp hA.out)
        clear hp hA ht
        go_wp2_with fail
        clear hcf
        refine Ht.out.mono ?_
        rintro e w2 ⟨rfl, hb2⟩
        go_wp2
        go_ret
        exact ⟨by rw [hno.out]; rfl, hB.trans (hb2.mono hs)⟩
    · have e : k = n := by omega
      subst e
      have hno := Lib.hid (show badN ps = -1 by
        have h1 := hA.out
        rw [← Hpl.out, List.take_length] at h1
        exact badN_none h1)
      clear hA
      go_wp2
      go_ret
      exact ⟨by rw [hno.out]; rfl, hB⟩
theorem cont_vals {g n c : Nat} (vs : List Value) (ps : List Bool) (f : FuncId) (cap : Array Value) (w : World) (hcf : ∀ args w, (callFunc f args).run Try.prog w = .ok (.enter f args) w) (hn : n ≤ 1048576) (hvl : vs.length = n) (hpl : ps.length = n) (hg : g < w.heap.size)
    (hv : ∀ (j : Nat) u, vs[j]? = some u → w.cell? ⟨g, j, none⟩ = some u) (hf : ∀ (j : Nat) u p, vs[j]? = some u → ps[j]? = some p → ∀ W, Below w.heap.size w W → Calls Try.prog f (#[u] ++ cap) W (TupPost (.bool (!p)) W)) :
    Calls Try.prog 114 #[.slice (some ⟨g, 0, none⟩) n c, .func (.func f) #[] cap] w (SeenPost (.bool (!ps.all id)) w) := by
  have H := Lib.hid (idx_vals (c := c) vs ps f cap w hcf hn hvl hpl hg hv hf)
  rw [← badN_all]
  generalize badN ps = r at *
  clear hn hvl hpl hv hcf hf
  go_enter Try.func114, Try.ntmps114
  go_wp2_with fail
  refine H.out.mono ?_
  rintro e w2 ⟨rfl, hb2⟩
  go_wp2
  go_ret
  exact ⟨rfl, hb2⟩
set_option maxHeartbeats 3200000 in
set_option maxRecDepth 100000 in
theorem strange_wt {base B n k0 : Nat} {A0 : Option Addr} {z1 z2 z3 u : Value} {x : List Int} {cs : List Nat} (w : World) (hx : Bd1 x) (hn : n ≤ 6) (hB : Bx w B 73 #[.slice A0 n k0, z1, z2, z3]) (hE : IntsE base w u x cs) :
    Calls Try.prog 113 (#[u] ++ #[.pointer (some ⟨B, 0, none⟩)]) w (TupPost (.bool (!risB x n)) w) := by
  have q := impl_numbers (n : Int) w hx hE
  obtain ⟨A, k, rfl⟩ := RowE.slice hE
  have Q := Lib.hid q
  obtain ⟨x0, x1, x2, x3, xl⟩ := hB.all4
  clear q hE hB
  generalize risB x n = r at *
  show Calls Try.prog 113 #[.slice A x.length k, .pointer (some ⟨B, 0, none⟩)] w _
  generalize x.length = xl at *
  go_enter Try.func113, Try.ntmps113
  go_wp2_with fail
  refine Q.out.mono ?_
  rintro e w2 ⟨rfl, q, rfl⟩
  go_wp2
  go_ret
  exact ⟨rfl, below_drewN (Below.refl _ _) _⟩
theorem alone_ints (A : Option Addr) (n k : Nat) (w : World) : Calls Try.prog 112 #[.slice A n k] w (fun e w' => e = .returned (.slice (some ⟨w.heap.size, 0, none⟩) 1 1) ∧ w' = w.alloc (.cells #[.slice A n k] 38)) := by
  go_enter Try.func112, Try.ntmps112
  go_wp2
  go_ret
  exact ⟨rfl, rfl⟩
set_option maxHeartbeats 25600000 in
set_option maxRecDepth 100000 in
theorem impl_ValidWatcher {base : Nat} {v : Value} {c : Wt} {bs : List Nat} (w : World) (hc : BdW c) (ha : WtE base w v c bs) :
    Calls Try.prog 41 #[v] w (TupPost (.bool (okW c)) w) := by
  obtain ⟨v0, v1, v2, b0, b1, b2, rfl, h0, h1, h2, _, _⟩ := ha
  have hB : Below w.heap.size w (w.alloc (.cells #[v0, .int .i64 c.seen, v1, v2] 73)) := (Below.refl _ _).alloc (Nat.le_refl _) _
  have hbx := Bx.new w 73 #[v0, .int .i64 c.seen, v1, v2]
  have Q := Lib.hid (impl_ValidQuery _ hc.query (((qf_ok _).later h0 hB).agg))
  obtain ⟨A0, k0, rfl⟩ := QfE.slice h0
  obtain ⟨A1, k1, rfl⟩ := RowE.slice h1
  obtain ⟨A2, k2, rfl⟩ := ManyE.slice h2
  obtain ⟨x0, x1, x2, x3, xl⟩ := id hbx.all4
  have hbd2 : c.stack.length ≤ 1048576 := hc.stack.1
  have hFT : ∀ (P : Prop), okQ c.query.steps = false → okW c = false := fun _ e => by simp [okW, e]
  cases e1 : okQ c.query.steps with
  | false =>
    rw [e1] at Q
    rw [hFT True e1]
    clear hFT e1 h0 h1 h2 hc hbx hbd2
    generalize c.query.steps.length = n at *
    generalize c.now.length = n1 at *
    generalize c.stack.length = m at *
    go_enter Try.func41, Try.ntmps41
    go_wp2_with fail
    refine Q.out.mono ?_
    rintro e w2 ⟨rfl, hb2⟩
    go_wp2
    go_ret
    exact ⟨rfl, hB.trans (hb2.mono hB.size)⟩
  | true =>
  have hn := okQ_len e1
  rw [e1] at Q
  clear hFT
  by_cases hhd : (0 ≤ c.seen ∧ c.seen ≤ 1000000000) ∧ c.stack.length ≤ 60
  case neg =>
    have hno : okW c = false := by
      simp only [okW, rngB]
      by_cases h : 0 ≤ c.seen ∧ c.seen ≤ 1000000000
      · have : ¬ c.stack.length ≤ 60 := fun h' => hhd ⟨h, h'⟩
        simp [this]
      · simp [h]
    rw [hno]
    clear hno e1 h0 h1 h2 hc hn
    generalize c.query.steps.length = n at *
    generalize c.now.length = n1 at *
    generalize c.stack.length = m at *
    generalize c.seen = s at *
    by_cases g1 : s < 0
    · clear hhd
      go_enter Try.func41, Try.ntmps41
      go_wp2_with fail
      refine Q.out.mono ?_
      rintro e w2 ⟨rfl, hb2⟩
      obtain ⟨y0, y1, y2, y3, yl⟩ := (hbx.later hb2).all4
      go_wp2
      go_ret
      exact ⟨rfl, hB.trans (hb2.mono hB.size)⟩
    · by_cases g2 : 1000000000 < s
      · clear hhd
        go_enter Try.func41, Try.ntmps41
        go_wp2_with fail
        refine Q.out.mono ?_
        rintro e w2 ⟨rfl, hb2⟩
        obtain ⟨y0, y1, y2, y3, yl⟩ := (hbx.later hb2).all4
        go_wp2
        go_ret
        exact ⟨rfl, hB.trans (hb2.mono hB.size)⟩
      · have g3 : 60 < m := by omega
        clear hhd
        go_enter Try.func41, Try.ntmps41
        go_wp2_with fail
        refine Q.out.mono ?_
        rintro e w2 ⟨rfl, hb2⟩
        obtain ⟨y0, y1, y2, y3, yl⟩ := (hbx.later hb2).all4
        go_wp2
        go_ret
        exact ⟨rfl, hB.trans (hb2.mono hB.size)⟩
  obtain ⟨⟨g1, g2⟩, g3⟩ := hhd
  have hok : okW c = ((c.stack ++ [c.now]).all (fun x => risB x c.query.steps.length) && decide (headW c = [0])) := by
    have e2 : rngB c.seen 0 1000000000 = true := by simp [rngB, g1, g2]
    simp only [okW, e1, e2, g3, decide_true, Bool.true_and, rowsB, List.all_append, List.all_cons, List.all_nil, Bool.and_true, Bool.and_assoc]
  rw [hok]
  have g1' : ¬ c.seen < 0 := by omega
  have g2' : ¬ 1000000000 < c.seen := by omega
  have g3' : ¬ 60 < c.stack.length := by omega
  obtain ⟨vs, bss, hrow, hbl, hall, _, _⟩ := id h2
  have hvl : vs.length = c.stack.length := by have := hrow.1; simpa using this
  have Hall := Lib.hid (fun (j : Nat) (u : Value) (hu : vs[j]? = some u) => show ∃ x cs, c.stack[j]? = some x ∧ IntsE base w u x cs from by
    have hj := (List.getElem?_eq_some_iff.1 hu).1
    have e1 : c.stack[j]? = some (c.stack[j]'(by omega)) := List.getElem?_eq_getElem (by omega)
    have e2 : bss[j]? = some (bss[j]'(by omega)) := List.getElem?_eq_getElem (by omega)
    exact ⟨_, _, e1, hall j _ u _ e1 hu e2⟩)
  have Hone := Lib.hid (show ∀ u ∈ vs, u.oneCell' = true from fun u hu => by
    obtain ⟨j, hj⟩ := List.getElem?_of_mem hu
    obtain ⟨x, cs, _, hE⟩ := Hall.out j u hj
    obtain ⟨A, k, rfl⟩ := RowE.slice hE
    rfl)
  clear hall hbl
  have hR2 := reads_of hrow
  have Hc := Lib.hid hc
  have H0 := Lib.hid h0
  have H1 := Lib.hid h1
  have H2 := Lib.hid h2
  have Hrow := Lib.hid hrow
  have HR2 := Lib.hid hR2
  have Hbx := Lib.hid hbx
  obtain ⟨n, hn'⟩ : ∃ n, n = c.query.steps.length := ⟨_, rfl⟩
  obtain ⟨m, hm'⟩ : ∃ m, m = c.stack.length := ⟨_, rfl⟩
  obtain ⟨n1, hn1'⟩ : ∃ n1, n1 = c.now.length := ⟨_, rfl⟩
  rw [← hn'] at hn x0 Hbx Q H0 hB ⊢
  rw [← hm'] at x3 g3 g3' hvl hbd2 Hbx HR2 Hrow H2 Q hB ⊢
  rw [← hn1'] at x2 Hbx H1 Q hB ⊢
  have Hm := Lib.hid hm'
  have Hn1 := Lib.hid hn1'
  have Hvl := Lib.hid hvl
  clear hok e1 h0 h1 h2 hc hrow hR2 hbx hn' hm' hn1' hvl g1 g2
  obtain ⟨s, hs⟩ : ∃ s, s = c.seen := ⟨_, rfl⟩
  rw [← hs] at g1' g2' hB Hbx x1 Q ⊢
  clear hs
  obtain ⟨r, hr⟩ : ∃ r, r = (c.stack ++ [c.now]).all (fun x => risB x n) := ⟨_, rfl⟩
  obtain ⟨xF, hxF0⟩ : ∃ x, x = headW c := ⟨_, rfl⟩
  rw [← hr, ← hxF0]
  have Hr := Lib.hid hr
  have HxF := Lib.hid hxF0
  clear hr hxF0
  go_enter Try.func41, Try.ntmps41
  go_wp2_with fail
  refine Q.out.mono ?_
  rintro e W0 ⟨rfl, hb0⟩
  have hbx0 := Hbx.out.later hb0
  have hB0 := hB.trans (hb0.mono hB.size)
  clear x0 x1 x2 x3 xl
  obtain ⟨x0, x1, x2, x3, xl⟩ := id hbx0.all4
  have HB0 := Lib.hid hB0
  clear hB0 hb0 Q
  go_upto_region 3 with fail
  refine wp_region_free (by kernel_rfl) [
      .val [] (fun _ => .pointer (some ⟨w.heap.size, 3, none⟩)),
      .val [] (fun _ => .slice A2 m k2),
      .val [] (fun _ => .pointer (some ⟨w.heap.size, 2, none⟩)),
      .val [] (fun _ => .slice A1 n1 k1),
      .own (LitE W0.heap.size 38 #[.slice A1 n1 k1] 1) (),
      .dep 4 (fun r => LitE W0.heap.size 25 #[.slice A2 m k2, r] 2) (),
      .own (RowE W0.heap.size 38 1 (fun v : Value => [v])) (vs ++ [.slice A1 n1 k1]),
      .val [6] (fun u => u 6)] ?hp ?hfw ?deps ?oks ?steps ?tail
  case hp => kernel_rfl
  case hfw => kernel_rfl
  case deps => kernel_rfl
  case oks =>
    intro F hF
    simp only [List.mem_cons, List.not_mem_nil, or_false] at hF
    rcases hF with rfl | rfl | rfl | rfl | rfl | rfl | rfl | rfl
    · trivial
    · trivial
    · trivial
    · trivial
    · exact ⟨_, lit_ok _ _ _ _⟩
    · exact fun v => ⟨_, lit_ok _ _ _ _⟩
    · exact ⟨_, RowE.ok _ _ _ _⟩
    · trivial
  case steps =>
    refine Steps.cons ?_ ?_
    · refine FreeStep.val [] _ rfl rfl fun u β W hW hn fr hfr K hK => ?_
      simp only [frameL, putL, Act.put, List.setIfInBounds_toArray, List.set_cons_zero, List.set_cons_succ, Nat.zero_add, Nat.reduceAdd] at hfr
      subst hfr
      have HK := Lib.hid hK
      clear hK hn
      go_simp
      have h9 := HK.out
      revert h9
      clear HK
      go_simp
      try exact id
    refine Steps.cons ?_ ?_
    · refine FreeStep.val [] _ rfl rfl fun u β W hW hn fr hfr K hK => ?_
      simp only [frameL, putL, Act.put, List.setIfInBounds_toArray, List.set_cons_zero, List.set_cons_succ, Nat.zero_add, Nat.reduceAdd] at hfr
      subst hfr
      have e0 : u 0 = .pointer (some ⟨w.heap.size, 3, none⟩) := Have.get (k := 0) hn rfl
      simp only [e0] at hK
      have c0 := cellL x3 hW
      have HK := Lib.hid hK
      clear hK hn
      go_simp
      have h9 := HK.out
      revert h9
      clear HK
      go_simp
      try exact id
    refine Steps.cons ?_ ?_
    · refine FreeStep.val [] _ rfl rfl fun u β W hW hn fr hfr K hK => ?_
      simp only [frameL, putL, Act.put, List.setIfInBounds_toArray, List.set_cons_zero, List.set_cons_succ, Nat.zero_add, Nat.reduceAdd] at hfr
      subst hfr
      have HK := Lib.hid hK
      clear hK hn
      go_simp
      have h9 := HK.out
      revert h9
      clear HK
      go_simp
      try exact id
    refine Steps.cons ?_ ?_
    · refine FreeStep.val [] _ rfl rfl fun u β W hW hn fr hfr K hK => ?_
      simp only [frameL, putL, Act.put, List.setIfInBounds_toArray, List.set_cons_zero, List.set_cons_succ, Nat.zero_add, Nat.reduceAdd] at hfr
      subst hfr
      have e2 : u 2 = .pointer (some ⟨w.heap.size, 2, none⟩) := Have.get (k := 2) hn rfl
      simp only [e2] at hK
      have c0 := cellL x2 hW
      have HK := Lib.hid hK
      clear hK hn
      go_simp
      have h9 := HK.out
      revert h9
      clear HK
      go_simp
      try exact id
    refine Steps.cons ?_ ?_
    · refine FreeStep.own (base := W0.heap.size) rfl (lit_ok _ _ _ _) fun u β W hW hn fr hfr K hK => ?_
      simp only [frameL, putL, Act.put, List.setIfInBounds_toArray, List.set_cons_zero, List.set_cons_succ, Nat.zero_add, Nat.reduceAdd] at hfr
      subst hfr
      have e3 : u 3 = .slice A1 n1 k1 := Have.get (k := 3) hn rfl
      simp only [e3] at hK
      have hsz := hW.size
      have Q := Lib.hid (alone_ints A1 n1 k1 W)
      have HK := Lib.hid hK
      clear hK hn
      go_simp
      refine Q.out.mono ?_
      rintro e w9 ⟨rfl, rfl⟩
      exact HK.out _ [W.heap.size] _ ((Below.refl _ _).alloc (Nat.le_refl _) _) (LitE.new _ _ _ W hsz) (fun b hb => by rw [List.mem_singleton.1 hb]; exact Nat.le_refl _)
    refine Steps.cons ?_ ?_
    · refine FreeStep.dep (base := W0.heap.size) rfl (by decide) (fun v => lit_ok _ _ _ _) fun u β W hW hn fr hfr K hK => ?_
      simp only [frameL, putL, Act.put, List.setIfInBounds_toArray, List.set_cons_zero, List.set_cons_succ, Nat.zero_add, Nat.reduceAdd] at hfr
      subst hfr
      have e1 : u 1 = .slice A2 m k2 := Have.get (k := 1) hn rfl
      have f4 : (LitE W0.heap.size 38 #[.slice A1 n1 k1] 1) W (u 4) () (β 4) := Have.get (k := 4) hn rfl
      obtain ⟨b4, g4, _, _, _⟩ := f4
      simp only [e1] at hK
      have hsz := hW.size
      have HK := Lib.hid hK
      clear hK hn
      rw [g4] at HK ⊢
      go_simp
      exact HK.out _ [W.heap.size] _ ((Below.refl _ _).alloc (Nat.le_refl _) _) (LitE.new _ _ _ W hsz) (fun b hb => by rw [List.mem_singleton.1 hb]; exact Nat.le_refl _)
    refine Steps.cons ?_ ?_
    · refine FreeStep.own (base := W0.heap.size) rfl (RowE.ok _ _ _ _) fun u β W hW hn fr hfr K hK => ?_
      simp only [frameL, putL, Act.put, List.setIfInBounds_toArray, List.set_cons_zero, List.set_cons_succ, Nat.zero_add, Nat.reduceAdd] at hfr
      subst hfr
      have f5 : (LitE W0.heap.size 25 #[.slice A2 m k2, (u 4)] 2) W (u 5) () (β 5) := Have.get (k := 5) hn rfl
      have f4 : (LitE W0.heap.size 38 #[.slice A1 n1 k1] 1) W (u 4) () (β 4) := Have.get (k := 4) hn rfl
      obtain ⟨b4, g4, hb4, _, hl4⟩ := f4
      obtain ⟨b5, g5, hb5, _, hl5⟩ := f5
      rw [g4] at hb5
      have hsz := hW.size
      have hbW := HB0.out.trans (hW.mono HB0.out.size)
      have Q := Lib.hid (concat_ints2 (b := b5) (k := 2) (c := 2) [.slice A2 m k2, .slice (some ⟨b4, 0, none⟩) 1 1] [vs, [.slice A1 n1 k1]] W (by omega) rfl rfl hb5.lt (by
        intro j u hu
        match j, hu with
        | 0, hu => simp at hu; subst hu; exact hb5.cell 0 _ rfl
        | 1, hu => simp at hu; subst hu; exact hb5.cell 1 _ rfl
        | j + 2, hu => simp at hu) (by
        intro j u r hu hr
        match j, hu, hr with
        | 0, hu, hr => simp at hu hr; subst hu hr; exact HR2.out.later hbW
        | 1, hu, hr => simp at hu hr; subst hu hr; exact .inr ⟨b4, 1, rfl, hb4.lt, World.news_of_block hb4⟩
        | j + 2, hu, hr => simp at hu) (by
        intro r hr u hu
        simp only [List.mem_cons, List.not_mem_nil, or_false] at hr
        rcases hr with rfl | rfl
        · exact Hone.out u hu
        · rw [List.mem_singleton.1 hu]; rfl) (by have := Hvl.out; simp; omega))
      have HK := Lib.hid hK
      clear hK hn
      rw [g5, g4] at HK ⊢
      go_simp
      refine Q.out.mono ?_
      rintro e w9 ⟨v9, rfl, ho9, hb9⟩
      have e9 : [vs, [.slice A1 n1 k1]].flatten = vs ++ [.slice A1 n1 k1] := by simp
      rw [e9] at ho9
      refine HK.out v9 v9.ownBlock.toList w9 hb9 ⟨?_, rfl⟩ (fun b hb => (ho9.lt b (by simpa using hb)).1)
      rw [List.flatMap_singleton']; exact row_base ho9 hsz
    refine Steps.cons ?_ ?_
    · refine FreeStep.val [6] _ rfl rfl fun u β W hW hn fr hfr K hK => ?_
      simp only [frameL, putL, Act.put, List.setIfInBounds_toArray, List.set_cons_zero, List.set_cons_succ, Nat.zero_add, Nat.reduceAdd] at hfr
      subst hfr
      have f6 : (RowE W0.heap.size 38 1 (fun v : Value => [v])) W (u 6) (vs ++ [.slice A1 n1 k1]) (β 6) := Have.get (k := 6) hn rfl
      have H6 := Lib.hid f6
      have hon6 : only [6] u 6 = u 6 := rfl
      simp only [hon6] at hK
      have HK := Lib.hid hK
      clear hK hn hon6
      go_simp
      have h9 := HK.out
      revert h9
      clear HK
      go_simp
      try exact id
    exact Steps.nil
  case tail =>
    intro u_ β_ W hW hn hdis hbnd
    have z0 : u_ 0 = .pointer (some ⟨w.heap.size, 3, none⟩) := Have.get (k := 0) hn rfl
    have z1 : u_ 1 = .slice A2 m k2 := Have.get (k := 1) hn rfl
    have z2 : u_ 2 = .pointer (some ⟨w.heap.size, 2, none⟩) := Have.get (k := 2) hn rfl
    have z3 : u_ 3 = .slice A1 n1 k1 := Have.get (k := 3) hn rfl
    have g4 : (LitE W0.heap.size 38 #[.slice A1 n1 k1] 1) W (u_ 4) () (β_ 4) := Have.get (k := 4) hn rfl
    have g5 : (LitE W0.heap.size 25 #[.slice A2 m k2, (u_ 4)] 2) W (u_ 5) () (β_ 5) := Have.get (k := 5) hn rfl
    have g6 : (RowE W0.heap.size 38 1 (fun v : Value => [v])) W (u_ 6) (vs ++ [.slice A1 n1 k1]) (β_ 6) := Have.get (k := 6) hn rfl
    have z7 : u_ 7 = u_ 6 := Have.get (k := 7) hn rfl
    rw [← frameL_eq (by kernel_rfl)]
    clear hn hdis hbnd
    simp only [frameL, putL, Act.put, List.setIfInBounds_toArray, List.set_cons_zero, List.set_cons_succ, Nat.zero_add, Nat.reduceAdd, z0, z1, z2, z3, z7]
    clear z0 z1 z2 z3 z7
    have hlenA : (vs ++ [Value.slice A1 n1 k1]).length = m + 1 := by have := Hvl.out; simp; omega
    obtain ⟨A3, kl, g6v⟩ := RowE.slice g6
    rw [hlenA] at g6v
    rw [g6v] at g6 ⊢
    clear g6v
    obtain ⟨gl, hgl, hglt, _⟩ := RowE.head g6 (j := 0) (by rw [hlenA]; omega)
    subst hgl
    have hvA : ∀ (j : Nat) u, (vs ++ [Value.slice A1 n1 k1])[j]? = some u → W.cell? ⟨gl, j, none⟩ = some u := fun j u hu => by have := RowE.cell g6 (fun _ => rfl) hu (i := 0) (u := u) rfl; simpa using this
    have hbxW := hbx0.later hW
    have hBW := HB0.out.trans (hW.mono HB0.out.size)
    have HA := Lib.hid (fun (j : Nat) (u : Value) (hu : (vs ++ [Value.slice A1 n1 k1])[j]? = some u) => show ∃ x cs, (c.stack ++ [c.now])[j]? = some x ∧ IntsE base w u x cs ∧ Bd1 x from by
      rcases Nat.lt_or_ge j vs.length with h | h
      · rw [List.getElem?_append_left h] at hu
        obtain ⟨x, cs, hx, hE⟩ := Hall.out j u hu
        exact ⟨x, cs, by rw [List.getElem?_append_left (List.getElem?_eq_some_iff.1 hx).1]; exact hx, hE, Hc.out.stack.2 x (List.mem_of_getElem? hx)⟩
      · rw [List.getElem?_append_right h] at hu
        have e0 : j - vs.length = 0 := by have := (List.getElem?_eq_some_iff.1 hu).1; simpa using this
        rw [e0] at hu
        obtain rfl : Value.slice A1 n1 k1 = u := by simpa using hu
        have e1 : j - c.stack.length = 0 := by have h1 := Hvl.out; have h2 := Hm.out; omega
        exact ⟨c.now, _, by rw [List.getElem?_append_right (by have h1 := Hvl.out; have h2 := Hm.out; omega), e1]; rfl, H1.out, Hc.out.now⟩)
    obtain ⟨ps, hps⟩ : ∃ ps, ps = (c.stack ++ [c.now]).map (fun x => risB x n) := ⟨_, rfl⟩
    have hpa : ps.all id = r := by rw [Hr.out, hps, List.all_map]; rfl
    have hpl : ps.length = m + 1 := by rw [hps]; have := Hm.out; simp; omega
    have hcf : ∀ args w, (callFunc 113 args).run Try.prog w = .ok (.enter 113 args) w := fun args w => entersR (fn := Try.f113) (by kernel_rfl) (by kernel_rfl) rfl args w
    have QC := Lib.hid (fun (W1 : World) (h1 : Below W.heap.size W W1) => cont_vals (g := gl) (n := m + 1) (c := kl) (vs ++ [Value.slice A1 n1 k1]) ps 113 #[.pointer (some ⟨w.heap.size, 0, none⟩)] W1 hcf (by omega) hlenA hpl (Nat.lt_of_lt_of_le hglt h1.size) (fun j u hu => cellL (hvA j u hu) h1) (fun j u p hu hp W2 h2 => by
      obtain ⟨x, cs, hx, hE, hbd⟩ := HA.out j u hu
      have hb2 := hBW.trans ((h1.trans (h2.mono h1.size)).mono hBW.size)
      have hp2 : p = risB x n := by rw [hps, List.getElem?_map, hx] at hp; simpa using hp.symm
      rw [hp2]
      exact strange_wt W2 hbd hn.2 (hbxW.later (h1.trans (h2.mono h1.size))) ((ints_ok _).later hE hb2)))
    obtain ⟨uF, huF⟩ : ∃ u, (vs ++ [Value.slice A1 n1 k1])[0]? = some u := ⟨_, List.getElem?_eq_getElem (by rw [hlenA]; omega)⟩
    obtain ⟨xG, csF, hxF, hEF, hbF⟩ := HA.out 0 uF huF
    have hcF := hvA 0 uF huF
    have hhead : xG = xF := by
      rw [HxF.out]
      unfold headW
      cases hst : c.stack with
      | nil => rw [hst] at hxF; simpa using hxF.symm
      | cons y ys => rw [hst] at hxF; simpa using hxF.symm
    rw [hhead] at hEF hbF
    have QF := Lib.hid (fun (W1 : World) (h1 : Below W.heap.size W W1) (u8 : Value) (b8 : Nat) (cs8 : List Nat) (h8 : IntsE b8 W1 u8 [0] cs8) => equal_ints W1 hbF (show Bd1 [(0 : Int)] by unfold Bd1; decide) ((ints_ok _).later hEF (hBW.trans (h1.mono hBW.size))) h8)
    obtain ⟨AF, kF, rfl⟩ := RowE.slice hEF
    obtain ⟨nF, hnF⟩ : ∃ k, k = xF.length := ⟨_, rfl⟩
    rw [← hnF] at QF hcF huF
    have HBW := Lib.hid hBW
    rw [hpa] at QC
    clear g4 g5 g6 hvA hbxW hEF hbF hxF hps hpa hlenA huF hhead hcf hnF
    clear x0 x1 x2 x3 xl hbx0 hBW
    generalize u_ 0 = s0; generalize u_ 1 = s1; generalize u_ 2 = s2; generalize u_ 3 = s3; generalize u_ 4 = s4; generalize u_ 5 = s5; generalize u_ 6 = s6; generalize u_ 7 = s7
    clear hpl Hr HxF
    go_upto_region 5 with fail
    cases r with
    | false =>
      refine wp_region_free (by kernel_rfl) [
          .val [] (fun _ => .slice (some ⟨gl, 0, none⟩) (m + 1) kl),
          .val [] (fun _ => .func (.func 113) #[] #[.pointer (some ⟨w.heap.size, 0, none⟩)]),
          .val [] (fun _ => .bool true),
          .val [] (fun _ => .bool false),
          .val [] (fun _ => .bool false),
          .val [] (fun _ => undef),
          .val [] (fun _ => undef),
          .val [] (fun _ => undef),
          .val [] (fun _ => undef),
          .val [] (fun _ => undef),
          .val [] (fun _ => .bool false),
          .val [] (fun _ => .bool false)] ?hp ?hfw ?deps ?oks ?steps ?tail
      case hp => kernel_rfl
      case hfw => kernel_rfl
      case deps => kernel_rfl
      case oks =>
        intro F hF
        simp only [List.mem_cons, List.not_mem_nil, or_false] at hF
        rcases hF with rfl | rfl | rfl | rfl | rfl | rfl | rfl | rfl | rfl | rfl | rfl | rfl
        · trivial
        · trivial
        · trivial
        · trivial
        · trivial
        · trivial
        · trivial
        · trivial
        · trivial
        · trivial
        · trivial
        · trivial
      case steps =>
        refine Steps.cons ?_ ?_
        · refine FreeStep.val [] _ rfl rfl fun u β W' hW hn fr hfr K hK => ?_
          simp only [frameL, putL, Act.put, List.setIfInBounds_toArray, List.set_cons_zero, List.set_cons_succ, Nat.zero_add, Nat.reduceAdd] at hfr
          subst hfr
          have HK := Lib.hid hK
          clear hK hn
          go_simp
          have h9 := HK.out
          revert h9
          clear HK
          go_simp
          try exact id
        refine Steps.cons ?_ ?_
        · refine FreeStep.val [] _ rfl rfl fun u β W' hW hn fr hfr K hK => ?_
          simp only [frameL, putL, Act.put, List.setIfInBounds_toArray, List.set_cons_zero, List.set_cons_succ, Nat.zero_add, Nat.reduceAdd] at hfr
          subst hfr
          have HK := Lib.hid hK
          clear hK hn
          go_simp
          have h9 := HK.out
          revert h9
          clear HK
          go_simp
          try exact id
        refine Steps.cons ?_ ?_
        · refine FreeStep.calm [] _ rfl rfl fun u β W' hW hn fr hfr K hK => ?_
          simp only [frameL, putL, Act.put, List.setIfInBounds_toArray, List.set_cons_zero, List.set_cons_succ, Nat.zero_add, Nat.reduceAdd] at hfr
          subst hfr
          have e0 : u 0 = .slice (some ⟨gl, 0, none⟩) (m + 1) kl := Have.get (k := 0) hn rfl
          have e1 : u 1 = .func (.func 113) #[] #[.pointer (some ⟨w.heap.size, 0, none⟩)] := Have.get (k := 1) hn rfl
          simp only [e0, e1] at hK
          have Q := Lib.hid (QC.out W' hW)
          have HK := Lib.hid hK
          clear hK hn
          go_simp
          refine Q.out.mono ?_
          rintro e w9 ⟨rfl, hb9⟩
          exact HK.out w9 hb9
        refine Steps.cons ?_ ?_
        · refine FreeStep.val [] _ rfl rfl fun u β W' hW hn fr hfr K hK => ?_
          simp only [frameL, putL, Act.put, List.setIfInBounds_toArray, List.set_cons_zero, List.set_cons_succ, Nat.zero_add, Nat.reduceAdd] at hfr
          subst hfr
          have e2 : u 2 = .bool true := Have.get (k := 2) hn rfl
          simp only [e2] at hK
          have HK := Lib.hid hK
          clear hK hn
          go_simp
          have h9 := HK.out
          revert h9
          clear HK
          go_simp
          try exact id
        refine Steps.cons ?_ ?_
        · refine FreeStep.val [] _ rfl rfl fun u β W' hW hn fr hfr K hK => ?_
          simp only [frameL, putL, Act.put, List.setIfInBounds_toArray, List.set_cons_zero, List.set_cons_succ, Nat.zero_add, Nat.reduceAdd] at hfr
          subst hfr
          have e3 : u 3 = .bool false := Have.get (k := 3) hn rfl
          simp only [e3] at hK
          have HK := Lib.hid hK
          clear hK hn
          go_simp
          have h9 := HK.out
          revert h9
          clear HK
          go_simp
          try exact id
        refine Steps.cons ?_ ?_
        · refine FreeStep.val [] _ rfl rfl fun u β W' hW hn fr hfr K hK => ?_
          simp only [frameL, putL, Act.put, List.setIfInBounds_toArray, List.set_cons_zero, List.set_cons_succ, Nat.zero_add, Nat.reduceAdd] at hfr
          subst hfr
          have e4 : u 4 = .bool false := Have.get (k := 4) hn rfl
          simp only [e4] at hK
          have HK := Lib.hid hK
          clear hK hn
          go_simp
          have h9 := HK.out
          revert h9
          clear HK
          go_simp
          try exact id
        refine Steps.cons ?_ ?_
        · refine FreeStep.val [] _ rfl rfl fun u β W' hW hn fr hfr K hK => ?_
          simp only [frameL, putL, Act.put, List.setIfInBounds_toArray, List.set_cons_zero, List.set_cons_succ, Nat.zero_add, Nat.reduceAdd] at hfr
          subst hfr
          have e5 : u 5 = undef := Have.get (k := 5) hn rfl
          have e4 : u 4 = .bool false := Have.get (k := 4) hn rfl
          simp only [e5, e4] at hK
          have HK := Lib.hid hK
          clear hK hn
          go_simp
          have h9 := HK.out
          revert h9
          clear HK
          go_simp
          try exact id
        refine Steps.cons ?_ ?_
        · refine FreeStep.val [] _ rfl rfl fun u β W' hW hn fr hfr K hK => ?_
          simp only [frameL, putL, Act.put, List.setIfInBounds_toArray, List.set_cons_zero, List.set_cons_succ, Nat.zero_add, Nat.reduceAdd] at hfr
          subst hfr
          have e6 : u 6 = undef := Have.get (k := 6) hn rfl
          have e4 : u 4 = .bool false := Have.get (k := 4) hn rfl
          simp only [e6, e4] at hK
          have HK := Lib.hid hK
          clear hK hn
          go_simp
          have h9 := HK.out
          revert h9
          clear HK
          go_simp
          try exact id
        refine Steps.cons ?_ ?_
        · refine FreeStep.val [] _ rfl rfl fun u β W' hW hn fr hfr K hK => ?_
          simp only [frameL, putL, Act.put, List.setIfInBounds_toArray, List.set_cons_zero, List.set_cons_succ, Nat.zero_add, Nat.reduceAdd] at hfr
          subst hfr
          have e4 : u 4 = .bool false := Have.get (k := 4) hn rfl
          simp only [e4] at hK
          have HK := Lib.hid hK
          clear hK hn
          go_simp
          have h9 := HK.out
          revert h9
          clear HK
          go_simp
          try exact id
        refine Steps.cons ?_ ?_
        · refine FreeStep.val [] _ rfl rfl fun u β W' hW hn fr hfr K hK => ?_
          simp only [frameL, putL, Act.put, List.setIfInBounds_toArray, List.set_cons_zero, List.set_cons_succ, Nat.zero_add, Nat.reduceAdd] at hfr
          subst hfr
          have e7 : u 7 = undef := Have.get (k := 7) hn rfl
          have e8 : u 8 = undef := Have.get (k := 8) hn rfl
          have e4 : u 4 = .bool false := Have.get (k := 4) hn rfl
          simp only [e7, e8, e4] at hK
          have HK := Lib.hid hK
          clear hK hn
          go_simp
          have h9 := HK.out
          revert h9
          clear HK
          go_simp
          try exact id
        refine Steps.cons ?_ ?_
        · refine FreeStep.val [] _ rfl rfl fun u β W' hW hn fr hfr K hK => ?_
          simp only [frameL, putL, Act.put, List.setIfInBounds_toArray, List.set_cons_zero, List.set_cons_succ, Nat.zero_add, Nat.reduceAdd] at hfr
          subst hfr
          have e4 : u 4 = .bool false := Have.get (k := 4) hn rfl
          have e9 : u 9 = undef := Have.get (k := 9) hn rfl
          simp only [e4, e9] at hK
          have HK := Lib.hid hK
          clear hK hn
          go_simp
          have h9 := HK.out
          revert h9
          clear HK
          go_simp
          try exact id
        refine Steps.cons ?_ ?_
        · refine FreeStep.val [] _ rfl rfl fun u β W' hW hn fr hfr K hK => ?_
          simp only [frameL, putL, Act.put, List.setIfInBounds_toArray, List.set_cons_zero, List.set_cons_succ, Nat.zero_add, Nat.reduceAdd] at hfr
          subst hfr
          have e10 : u 10 = .bool false := Have.get (k := 10) hn rfl
          simp only [e10] at hK
          have HK := Lib.hid hK
          clear hK hn
          go_simp
          have h9 := HK.out
          revert h9
          clear HK
          go_simp
          try exact id
        exact Steps.nil
      case tail =>
        intro u_ β_ W' hW hn hdis hbnd
        have z0 : u_ 0 = .slice (some ⟨gl, 0, none⟩) (m + 1) kl := Have.get (k := 0) hn rfl
        have z1 : u_ 1 = .func (.func 113) #[] #[.pointer (some ⟨w.heap.size, 0, none⟩)] := Have.get (k := 1) hn rfl
        have z2 : u_ 2 = .bool true := Have.get (k := 2) hn rfl
        have z3 : u_ 3 = .bool false := Have.get (k := 3) hn rfl
        have z4 : u_ 4 = .bool false := Have.get (k := 4) hn rfl
        have z5 : u_ 5 = undef := Have.get (k := 5) hn rfl
        have z6 : u_ 6 = undef := Have.get (k := 6) hn rfl
        have z7 : u_ 7 = undef := Have.get (k := 7) hn rfl
        have z8 : u_ 8 = undef := Have.get (k := 8) hn rfl
        have z9 : u_ 9 = undef := Have.get (k := 9) hn rfl
        have z10 : u_ 10 = .bool false := Have.get (k := 10) hn rfl
        have z11 : u_ 11 = .bool false := Have.get (k := 11) hn rfl
        rw [← frameL_eq (by kernel_rfl)]
        clear hn hdis hbnd
        simp only [frameL, putL, Act.put, List.setIfInBounds_toArray, List.set_cons_zero, List.set_cons_succ, Nat.zero_add, Nat.reduceAdd, z0, z1, z2, z3, z4, z5, z6, z7, z8, z9, z10, z11]
        clear z0 z1 z2 z3 z4 z5 z6 z7 z8 z9 z10 z11
        go_wp2
        go_ret
        exact ⟨rfl, HBW.out.trans (hW.mono HBW.out.size)⟩
    | true =>
      refine wp_region_free (by kernel_rfl) [
          .val [] (fun _ => .slice (some ⟨gl, 0, none⟩) (m + 1) kl),
          .val [] (fun _ => .func (.func 113) #[] #[.pointer (some ⟨w.heap.size, 0, none⟩)]),
          .val [] (fun _ => .bool false),
          .val [] (fun _ => .bool true),
          .val [] (fun _ => .bool true),
          .val [] (fun _ => .slice (some ⟨gl, 0, none⟩) (m + 1) kl),
          .val [] (fun _ => .pointer (some ⟨gl, 0, none⟩)),
          .val [] (fun _ => .slice AF nF kF),
          .own (IntsE W.heap.size) [0],
          .val [] (fun _ => .bool (decide (xF = [0]))),
          .val [] (fun _ => .bool (decide (xF = [0]))),
          .val [] (fun _ => .bool (decide (xF = [0])))] ?hp ?hfw ?deps ?oks ?steps ?tail
      case hp => kernel_rfl
      case hfw => kernel_rfl
      case deps => kernel_rfl
      case oks =>
        intro F hF
        simp only [List.mem_cons, List.not_mem_nil, or_false] at hF
        rcases hF with rfl | rfl | rfl | rfl | rfl | rfl | rfl | rfl | rfl | rfl | rfl | rfl
        · trivial
        · trivial
        · trivial
        · trivial
        · trivial
        · trivial
        · trivial
        · trivial
        · exact ⟨_, ints_ok _⟩
        · trivial
        · trivial
        · trivial
      case steps =>
        refine Steps.cons ?_ ?_
        · refine FreeStep.val [] _ rfl rfl fun u β W' hW hn fr hfr K hK => ?_
          simp only [frameL, putL, Act.put, List.setIfInBounds_toArray, List.set_cons_zero, List.set_cons_succ, Nat.zero_add, Nat.reduceAdd] at hfr
          subst hfr
          have HK := Lib.hid hK
          clear hK hn
          go_simp
          have h9 := HK.out
          revert h9
          clear HK
          go_simp
          try exact id
        refine Steps.cons ?_ ?_
        · refine FreeStep.val [] _ rfl rfl fun u β W' hW hn fr hfr K hK => ?_
          simp only [frameL, putL, Act.put, List.setIfInBounds_toArray, List.set_cons_zero, List.set_cons_succ, Nat.zero_add, Nat.reduceAdd] at hfr
          subst hfr
          have HK := Lib.hid hK
          clear hK hn
          go_simp
          have h9 := HK.out
          revert h9
          clear HK
          go_simp
          try exact id
        refine Steps.cons ?_ ?_
        · refine FreeStep.calm [] _ rfl rfl fun u β W' hW hn fr hfr K hK => ?_
          simp only [frameL, putL, Act.put, List.setIfInBounds_toArray, List.set_cons_zero, List.set_cons_succ, Nat.zero_add, Nat.reduceAdd] at hfr
          subst hfr
          have e0 : u 0 = .slice (some ⟨gl, 0, none⟩) (m + 1) kl := Have.get (k := 0) hn rfl
          have e1 : u 1 = .func (.func 113) #[] #[.pointer (some ⟨w.heap.size, 0, none⟩)] := Have.get (k := 1) hn rfl
          simp only [e0, e1] at hK
          have Q := Lib.hid (QC.out W' hW)
          have HK := Lib.hid hK
          clear hK hn
          go_simp
          refine Q.out.mono ?_
          rintro e w9 ⟨rfl, hb9⟩
          exact HK.out w9 hb9
        refine Steps.cons ?_ ?_
        · refine FreeStep.val [] _ rfl rfl fun u β W' hW hn fr hfr K hK => ?_
          simp only [frameL, putL, Act.put, List.setIfInBounds_toArray, List.set_cons_zero, List.set_cons_succ, Nat.zero_add, Nat.reduceAdd] at hfr
          subst hfr
          have e2 : u 2 = .bool false := Have.get (k := 2) hn rfl
          simp only [e2] at hK
          have HK := Lib.hid hK
          clear hK hn
          go_simp
          have h9 := HK.out
          revert h9
          clear HK
          go_simp
          try exact id
        refine Steps.cons ?_ ?_
        · refine FreeStep.val [] _ rfl rfl fun u β W' hW hn fr hfr K hK => ?_
          simp only [frameL, putL, Act.put, List.setIfInBounds_toArray, List.set_cons_zero, List.set_cons_succ, Nat.zero_add, Nat.reduceAdd] at hfr
          subst hfr
          have e3 : u 3 = .bool true := Have.get (k := 3) hn rfl
          simp only [e3] at hK
          have HK := Lib.hid hK
          clear hK hn
          go_simp
          have h9 := HK.out
          revert h9
          clear HK
          go_simp
          try exact id
        refine Steps.cons ?_ ?_
        · refine FreeStep.val [] _ rfl rfl fun u β W' hW hn fr hfr K hK => ?_
          simp only [frameL, putL, Act.put, List.setIfInBounds_toArray, List.set_cons_zero, List.set_cons_succ, Nat.zero_add, Nat.reduceAdd] at hfr
          subst hfr
          have e4 : u 4 = .bool true := Have.get (k := 4) hn rfl
          simp only [e4] at hK
          have HK := Lib.hid hK
          clear hK hn
          go_simp
          have h9 := HK.out
          revert h9
          clear HK
          go_simp
          try exact id
        refine Steps.cons ?_ ?_
        · refine FreeStep.val [] _ rfl rfl fun u β W' hW hn fr hfr K hK => ?_
          simp only [frameL, putL, Act.put, List.setIfInBounds_toArray, List.set_cons_zero, List.set_cons_succ, Nat.zero_add, Nat.reduceAdd] at hfr
          subst hfr
          have e5 : u 5 = .slice (some ⟨gl, 0, none⟩) (m + 1) kl := Have.get (k := 5) hn rfl
          have e4 : u 4 = .bool true := Have.get (k := 4) hn rfl
          simp only [e5, e4] at hK
          have HK := Lib.hid hK
          clear hK hn
          go_simp
          have h9 := HK.out
          revert h9
          clear HK
          go_simp
          try exact id
        refine Steps.cons ?_ ?_
        · refine FreeStep.val [] _ rfl rfl fun u β W' hW hn fr hfr K hK => ?_
          simp only [frameL, putL, Act.put, List.setIfInBounds_toArray, List.set_cons_zero, List.set_cons_succ, Nat.zero_add, Nat.reduceAdd] at hfr
          subst hfr
          have e6 : u 6 = .pointer (some ⟨gl, 0, none⟩) := Have.get (k := 6) hn rfl
          have e4 : u 4 = .bool true := Have.get (k := 4) hn rfl
          simp only [e6, e4] at hK
          have c0 := cellL hcF hW
          have HK := Lib.hid hK
          clear hK hn
          go_simp
          have h9 := HK.out
          revert h9
          clear HK
          go_simp
          try exact id
        refine Steps.cons ?_ ?_
        · refine FreeStep.own (base := W.heap.size) rfl (ints_ok _) fun u β W' hW hn fr hfr K hK => ?_
          simp only [frameL, putL, Act.put, List.setIfInBounds_toArray, List.set_cons_zero, List.set_cons_succ, Nat.zero_add, Nat.reduceAdd] at hfr
          subst hfr
          have e4 : u 4 = .bool true := Have.get (k := 4) hn rfl
          simp only [e4] at hK
          have hsz := hW.size
          have Q := Lib.hid (list_one W')
          have HK := Lib.hid hK
          clear hK hn
          go_simp
          refine Q.out.mono ?_
          rintro e w9 ⟨v9, cs9, rfl, h9, hb9⟩
          exact HK.out v9 cs9 w9 hb9 (ints_base hsz _ _ _ _ h9) (fun b hb => ((ints_ok _).lt h9 b hb).1)
        refine Steps.cons ?_ ?_
        · refine FreeStep.calm [] _ rfl rfl fun u β W' hW hn fr hfr K hK => ?_
          simp only [frameL, putL, Act.put, List.setIfInBounds_toArray, List.set_cons_zero, List.set_cons_succ, Nat.zero_add, Nat.reduceAdd] at hfr
          subst hfr
          have e7 : u 7 = .slice AF nF kF := Have.get (k := 7) hn rfl
          have f8 : (IntsE W.heap.size) W' (u 8) [0] (β 8) := Have.get (k := 8) hn rfl
          have e4 : u 4 = .bool true := Have.get (k := 4) hn rfl
          obtain ⟨A8, k8, g8⟩ := RowE.slice f8
          simp only [e7, e4] at hK
          have Q := Lib.hid (QF.out W' hW _ _ _ f8)
          have HK := Lib.hid hK
          clear hK hn
          rw [g8] at HK Q ⊢
          go_simp
          refine Q.out.mono ?_
          rintro e w9 ⟨rfl, q9, rfl⟩
          exact HK.out _ (below_drewN (Below.refl _ _) _)
        refine Steps.cons ?_ ?_
        · refine FreeStep.val [] _ rfl rfl fun u β W' hW hn fr hfr K hK => ?_
          simp only [frameL, putL, Act.put, List.setIfInBounds_toArray, List.set_cons_zero, List.set_cons_succ, Nat.zero_add, Nat.reduceAdd] at hfr
          subst hfr
          have e4 : u 4 = .bool true := Have.get (k := 4) hn rfl
          have e9 : u 9 = .bool (decide (xF = [0])) := Have.get (k := 9) hn rfl
          simp only [e4, e9] at hK
          have HK := Lib.hid hK
          clear hK hn
          go_simp
          have h9 := HK.out
          revert h9
          clear HK
          go_simp
          try exact id
        refine Steps.cons ?_ ?_
        · refine FreeStep.val [] _ rfl rfl fun u β W' hW hn fr hfr K hK => ?_
          simp only [frameL, putL, Act.put, List.setIfInBounds_toArray, List.set_cons_zero, List.set_cons_succ, Nat.zero_add, Nat.reduceAdd] at hfr
          subst hfr
          have e10 : u 10 = .bool (decide (xF = [0])) := Have.get (k := 10) hn rfl
          simp only [e10] at hK
          have HK := Lib.hid hK
          clear hK hn
          go_simp
          have h9 := HK.out
          revert h9
          clear HK
          go_simp
          try exact id
        exact Steps.nil
      case tail =>
        intro u_ β_ W' hW hn hdis hbnd
        have z0 : u_ 0 = .slice (some ⟨gl, 0, none⟩) (m + 1) kl := Have.get (k := 0) hn rfl
        have z1 : u_ 1 = .func (.func 113) #[] #[.pointer (some ⟨w.heap.size, 0, none⟩)] := Have.get (k := 1) hn rfl
        have z2 : u_ 2 = .bool false := Have.get (k := 2) hn rfl
        have z3 : u_ 3 = .bool true := Have.get (k := 3) hn rfl
        have z4 : u_ 4 = .bool true := Have.get (k := 4) hn rfl
        have z5 : u_ 5 = .slice (some ⟨gl, 0, none⟩) (m + 1) kl := Have.get (k := 5) hn rfl
        have z6 : u_ 6 = .pointer (some ⟨gl, 0, none⟩) := Have.get (k := 6) hn rfl
        have z7 : u_ 7 = .slice AF nF kF := Have.get (k := 7) hn rfl
        have g8 : (IntsE W.heap.size) W' (u_ 8) [0] (β_ 8) := Have.get (k := 8) hn rfl
        have z9 : u_ 9 = .bool (decide (xF = [0])) := Have.get (k := 9) hn rfl
        have z10 : u_ 10 = .bool (decide (xF = [0])) := Have.get (k := 10) hn rfl
        have z11 : u_ 11 = .bool (decide (xF = [0])) := Have.get (k := 11) hn rfl
        rw [← frameL_eq (by kernel_rfl)]
        clear hn hdis hbnd
        simp only [frameL, putL, Act.put, List.setIfInBounds_toArray, List.set_cons_zero, List.set_cons_succ, Nat.zero_add, Nat.reduceAdd, z0, z1, z2, z3, z4, z5, z6, z7, z9, z10, z11]
        clear z0 z1 z2 z3 z4 z5 z6 z7 z9 z10 z11
        go_wp2
        go_ret
        exact ⟨rfl, HBW.out.trans (hW.mono HBW.out.size)⟩
theorem both_ValidWatcher (c : Wt) : ∃ (r0 : Bool),
    (∀ base0 v0 bs0 w, BdW c → WtE base0 w v0 c bs0 → Calls Try.prog 39 #[v0] w (TupPost (.bool r0) w)) ∧
    (∀ base0 v0 bs0 w, BdW c → WtE base0 w v0 c bs0 → Calls Try.prog 41 #[v0] w (TupPost (.bool r0) w)) :=
  ⟨_, fun _ _ _ w hc ha => spec_ValidWatcher w hc ha, fun _ _ _ w hc ha => impl_ValidWatcher w hc ha⟩
end Go.Proofs.Ytfaiifiohomdmaa
