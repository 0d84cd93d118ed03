/- OppositeChecker of the model, and both sides. -/
import Derived.Test.YtdehehdcjfaefabCopy2
import Derived.Test.YtdehehdcjfaefabSpecOk
import Derived.Test.YtdehehdcjfaefabOppI
namespace Go.Proofs.Ytdehehdcjfaefab
open Go.RowKit
set_option linter.unusedVariables false

set_option maxHeartbeats 3200000 in
set_option maxRecDepth 100000 in
theorem spec_Opp_no {base : Nat} {v : Value} {c : Ck} {bs : List Nat} (w : World) (hbd : BdC c) (hck : CkE base w v c bs) (h : okM c = false) :
    Calls Try.prog 11 #[v] w (PostR CkE nilCk 1 w) := by
  obtain ⟨va, vc, vr, vi, b1, b2, b3, b4, rfl, h1, h2, h3, h4, _, _⟩ := hck
  have hB := ((Below.refl w.heap.size w).alloc (Nat.le_refl _) (.cells #[.int .i64 c.stack, .int .i64 c.start, va, vc, vr, vi] 31)).alloc (by simp) (.cells #[.int .i64 0, .int .i64 0, .slice none 0 0, .slice none 0 0, .slice none 0 0, .slice none 0 0] 31)
  have x1 := (Bx.new w 31 #[.int .i64 c.stack, .int .i64 c.start, va, vc, vr, vi]).alloc (.cells #[.int .i64 0, .int .i64 0, .slice none 0 0, .slice none 0 0, .slice none 0 0, .slice none 0 0] 31)
  have x2 := Bx.new (w.alloc (.cells #[.int .i64 c.stack, .int .i64 c.start, va, vc, vr, vi] 31)) 31 #[.int .i64 0, .int .i64 0, .slice none 0 0, .slice none 0 0, .slice none 0 0, .slice none 0 0]
  rw [World.size_alloc] at x2
  have hv := spec_l02Ok _ hbd x1 ((bools_ok _).later h1 hB) ((push2_ok _).later h2 hB) ((ints3_ok _).later h3 hB) ((ints2_ok _).later h4 hB)
  rw [h] at hv
  have Hv := Lib.hid hv
  have HB := Lib.hid hB
  have X2 := Lib.hid x2
  clear hv hB h1 h2 h3 h4 hbd h x2 x1
  go_enter Try.func11, Try.ntmps11
  go_wp2_with fail
  refine Hv.out.mono ?_
  rintro e w1 ⟨rfl, hb1⟩
  have x2 := X2.out.later hb1
  have hB1 := HB.out.trans (hb1.mono HB.out.size)
  obtain ⟨c0, c1, c2, c3, c4, c5, cl⟩ := id x2.all6
  have q0 := x2.frozen 0
  have q1 := x2.frozen 1
  have q2 := x2.frozen 2
  have q3 := x2.frozen 3
  have q4 := x2.frozen 4
  have q5 := x2.frozen 5
  go_wp2
  clear c0 c1 c2 c3 c4 c5 q0 q1 q2 q3 q4 q5
  have z0 := x2.set 0 (.int .i64 0)
  have z1 := z0.set 1 (.int .i64 0)
  have z2 := z1.set 2 (.slice none 0 0)
  have z3 := z2.set 3 (.slice none 0 0)
  have z4 := z3.set 4 (.slice none 0 0)
  have z5 := z4.set 5 (.slice none 0 0)
  have y0 := z5.cell 0 (.int .i64 0) rfl
  have y1 := z5.cell 1 (.int .i64 0) rfl
  have y2 := z5.cell 2 (.slice none 0 0) rfl
  have y3 := z5.cell 3 (.slice none 0 0) rfl
  have y4 := z5.cell 4 (.slice none 0 0) rfl
  have y5 := z5.cell 5 (.slice none 0 0) rfl
  have hBf := ((((((hB1.setCell (p := ⟨w.heap.size + 1, 0, none⟩) (by simp) (.int .i64 0)).setCell (p := ⟨w.heap.size + 1, 1, none⟩) (by simp) (.int .i64 0)).setCell (p := ⟨w.heap.size + 1, 2, none⟩) (by simp) (.slice none 0 0)).setCell (p := ⟨w.heap.size + 1, 3, none⟩) (by simp) (.slice none 0 0)).setCell (p := ⟨w.heap.size + 1, 4, none⟩) (by simp) (.slice none 0 0)).setCell (p := ⟨w.heap.size + 1, 5, none⟩) (by simp) (.slice none 0 0))
  exact bodyPost_ret (v := .tuple #[.agg #[.int .i64 0, .int .i64 0, .slice none 0 0, .slice none 0 0, .slice none 0 0, .slice none 0 0], .int .i64 1]) (by simp [results, Try.results11, go_sem, y0, y1, y2, y3, y4, y5]) rfl ⟨_, [], rfl, nil_ck _ _, hBf⟩

theorem ck_base {b b' : Nat} (hb : b' ≤ b) {w : World} {v : Value} {x : Ck} {bs : List Nat} (h : CkE b w v x bs) : CkE b' w v x bs := by
  obtain ⟨va, vc, vr, vi, b1, b2, b3, b4, rfl, h1, h2, h3, h4, h5, h6⟩ := h
  exact ⟨va, vc, vr, vi, b1, b2, b3, b4, rfl, bools_base hb _ _ _ _ h1, pushes2_base hb _ _ _ _ h2, ints3_base hb _ _ _ _ h3, ints2_base hb _ _ _ _ h4, h5, h6⟩
theorem two_len {α : Type} {x : List α} {a b : α} (h : x = [a, b]) : x.length = 2 := by rw [h]; rfl
theorem lens_of {c : Ck} (h : OkC c) : (c.call.length ≤ 40 ∧ ∀ x ∈ c.call, x.length = 2) ∧ (c.ret.length ≤ 40 ∧ ∀ x ∈ c.ret, x.length ≤ 40 ∧ ∀ y ∈ x, 1 ≤ y.length ∧ y.length ≤ 100) ∧ (c.inner.length ≤ 40 ∧ ∀ x ∈ c.inner, x.length = 2) := by
  have n2 := h.n2
  have sk := h.st2
  refine ⟨⟨by have := h.lc; omega, fun x hx => ?_⟩, ⟨by have := h.lr; omega, fun x hx => ?_⟩, ⟨by have := h.li; omega, fun x hx => ?_⟩⟩
  · obtain ⟨i, hi, rfl⟩ := List.mem_iff_getElem.1 hx
    obtain ⟨a, b, hab, _, _⟩ := h.call i (by rw [← h.lc]; exact hi)
    rw [List.getElem?_eq_getElem hi] at hab
    exact two_len (Option.some.inj hab)
  · obtain ⟨i, hi, rfl⟩ := List.mem_iff_getElem.1 hx
    obtain ⟨a, b, hab, ha, hb⟩ := h.ret i (by rw [← h.lr]; exact hi)
    rw [List.getElem?_eq_getElem hi] at hab
    have e := Option.some.inj hab
    refine ⟨by rw [e]; simp, fun y hy => ?_⟩
    rw [e] at hy
    simp only [listB, Bool.and_eq_true, decide_eq_true_eq] at ha hb
    have sk1 := h.st1
    rcases List.mem_cons.1 hy with rfl | hy
    · have := ha.1; omega
    · rw [List.mem_singleton.1 hy]; have := hb.1; omega
  · obtain ⟨i, hi, rfl⟩ := List.mem_iff_getElem.1 hx
    obtain ⟨a, b, hab, _, _⟩ := h.inner i (by rw [← h.li]; exact hi)
    rw [List.getElem?_eq_getElem hi] at hab
    exact two_len (Option.some.inj hab)

set_option maxHeartbeats 6400000 in
set_option maxRecDepth 100000 in
theorem spec_Opp_yes {base : Nat} {v : Value} {c : Ck} {bs : List Nat} (w : World) (hbd : BdC c) (hck : CkE base w v c bs) (h : okM c = true) :
    Calls Try.prog 11 #[v] w (PostR CkE (oppC c) 0 w) := by
  have hok := okC_of h
  have hlen := lens_of hok
  obtain ⟨va, vc, vr, vi, b1, b2, b3, b4, rfl, h1, h2, h3, h4, _, _⟩ := hck
  have hB := ((Below.refl w.heap.size w).alloc (Nat.le_refl _) (.cells #[.int .i64 c.stack, .int .i64 c.start, va, vc, vr, vi] 31)).alloc (by simp) (.cells #[.int .i64 0, .int .i64 0, .slice none 0 0, .slice none 0 0, .slice none 0 0, .slice none 0 0] 31)
  have x1 := (Bx.new w 31 #[.int .i64 c.stack, .int .i64 c.start, va, vc, vr, vi]).alloc (.cells #[.int .i64 0, .int .i64 0, .slice none 0 0, .slice none 0 0, .slice none 0 0, .slice none 0 0] 31)
  have x2 := Bx.new (w.alloc (.cells #[.int .i64 c.stack, .int .i64 c.start, va, vc, vr, vi] 31)) 31 #[.int .i64 0, .int .i64 0, .slice none 0 0, .slice none 0 0, .slice none 0 0, .slice none 0 0]
  rw [World.size_alloc] at x2
  have g1 := (bools_ok _).later h1 hB
  have g2 := (push2_ok _).later h2 hB
  have g3 := (ints3_ok _).later h3 hB
  have g4 := (ints2_ok _).later h4 hB
  have hv := spec_l02Ok _ hbd x1 g1 g2 g3 g4
  rw [h] at hv
  have hcp := fun (W : World) (hW : Below _ _ W) => spec_copy W hbd (⟨hok.n1, hok.n2⟩ : 1 ≤ c.accept.length ∧ c.accept.length ≤ 40) hlen.1 hlen.2.1 hlen.2.2 (x1.later hW) ((bools_ok _).later g1 hW) ((push2_ok _).later g2 hW) ((ints3_ok _).later g3 hW) ((ints2_ok _).later g4 hW)
  obtain ⟨n, hn⟩ : ∃ n, n = c.accept.length := ⟨_, rfl⟩
  have hn40 : n ≤ 40 := by rw [hn]; exact hok.n2
  have Hn := Lib.hid hn
  have Hv := Lib.hid hv
  have Hcp := Lib.hid hcp
  have HB := Lib.hid (And.intro hB x2)
  have hbb := hB.size
  clear hv hcp hB h1 h2 h3 h4 g1 g2 g3 g4 hbd h x2 x1 hok hlen hn hbb
  go_enter Try.func11, Try.ntmps11
  go_wp2_with fail
  refine Hv.out.mono ?_
  rintro e w1 ⟨rfl, hb1⟩
  have HC := Lib.hid (And.intro (HB.out.1.trans (hb1.mono HB.out.1.size)) (HB.out.2.later hb1))
  have Hws := Lib.hid (Hcp.out w1 hb1)
  have hlw : w.heap.size + 1 < w1.heap.size := HC.out.2.lt
  clear hb1 HB Hv Hcp
  go_wp2_with fail
  refine Hws.out.mono ?_
  rintro e w6 ⟨v6, bs6, rfl, E6, hb6⟩
  clear Hws
  obtain ⟨va6, vc6, vr6, vi6, d1, d2, d3, d4, rfl, f1, f2, f3, f4, hbs6, hnd6⟩ := E6
  rw [hbs6] at hnd6
  obtain ⟨A6, k6, e6⟩ := RowE.slice f1
  rw [← Hn.out] at e6
  subst e6
  obtain ⟨C6, kc6, rfl⟩ := ManyE.slice f2
  obtain ⟨R6, kr6, rfl⟩ := ManyE.slice f3
  obtain ⟨I6, ki6, rfl⟩ := ManyE.slice f4
  have hn7 := (Below.refl w6.heap.size w6).alloc (Nat.le_refl _) (.cells #[.int .i64 c.stack, .int .i64 c.start, .slice A6 n k6, (.slice C6 c.call.length kc6), (.slice R6 c.ret.length kr6), (.slice I6 c.inner.length ki6)] 31)
  have x6 := Bx.new w6 31 #[.int .i64 c.stack, .int .i64 c.start, .slice A6 n k6, (.slice C6 c.call.length kc6), (.slice R6 c.ret.length kr6), (.slice I6 c.inner.length ki6)]
  obtain ⟨W7, hW7⟩ : ∃ W7, W7 = w6.alloc (.cells #[.int .i64 c.stack, .int .i64 c.start, .slice A6 n k6, (.slice C6 c.call.length kc6), (.slice R6 c.ret.length kr6), (.slice I6 c.inner.length ki6)] 31) := ⟨_, rfl⟩
  rw [← hW7] at hn7 x6
  have hb67 := hb6.trans (hn7.mono hb6.size)
  have x2 := HC.out.2.later hb67
  have hB7 := HC.out.1.trans (hb67.mono HC.out.1.size)
  have hsz6 : (w.heap.size + 1 < w1.heap.size ∧ w1.heap.size ≤ w6.heap.size ∧ w.heap.size ≤ w1.heap.size) ∧ (w.heap.size + 1 ∉ d1) ∧ (w6.heap.size ∉ d1) := by
    have t2 := hb6.size
    have t4 := fun b hb => (bools_ok _).lt f1 b hb
    refine ⟨⟨hlw, t2, by omega⟩, fun h => ?_, fun h => ?_⟩
    · have := (t4 _ h).1; omega
    · have := (t4 _ h).2; omega
  have HZ6 := Lib.hid hsz6
  have HF := Lib.hid (And.intro ((bools_ok _).later f1 hn7) (And.intro ((push2_ok _).later f2 hn7) (And.intro ((ints3_ok _).later f3 hn7) (And.intro ((ints2_ok _).later f4 hn7) (And.intro hnd6 (And.intro x2 (And.intro x6 (And.intro hB7 ((bools_ok _).lt f1)))))))))
  have HW7 := Lib.hid hW7
  clear f1 f2 f3 f4 hbs6 hnd6 hn7 x6 hb67 x2 hB7 hW7 hb6 HC hsz6
  have Hset := Lib.hid (fun (k : Nat) (x : Bool) (hx : c.accept[k]? = some x) => opp_set hx)
  have Hat := Lib.hid (fun (k : Nat) (hk : k < c.accept.length) => (⟨_, List.getElem?_eq_getElem hk⟩ : ∃ x, c.accept[k]? = some x))
  have Hnow := Lib.hid (fun (k : Nat) (x : Bool) (hx : c.accept[k]? = some x) => (show ((c.accept.take k).map (fun b => !b) ++ c.accept.drop k)[k]? = some x by
    have hk := (List.getElem?_eq_some_iff.1 hx).1
    rw [List.getElem?_append_right (by simp; omega), List.length_map, List.length_take, Nat.min_eq_left (by omega), Nat.sub_self, List.getElem?_drop, Nat.add_zero, hx]))
  have H0 := Lib.hid (show (c.accept.take 0).map (fun b => !b) ++ c.accept.drop 0 = c.accept by simp)
  have Hall := Lib.hid (show (c.accept.take c.accept.length).map (fun b => !b) ++ c.accept.drop c.accept.length = c.accept.map (fun b => !b) by simp)
  have Hlen := Lib.hid (fun (k : Nat) (hk : k ≤ c.accept.length) => (show ((c.accept.take k).map (fun b => !b) ++ c.accept.drop k).length = c.accept.length by simp; omega))
  rw [← Hn.out] at Hat Hall Hlen
  go_wp2_with fail
  rw [← HW7.out]
  go_loopw [5] (fun i wx => ∃ k : Nat, k ≤ n ∧ i = .int .i64 k ∧ Hid (BoolsE w1.heap.size wx (.slice A6 n k6) ((c.accept.take k).map (fun b => !b) ++ c.accept.drop k) d1) ∧ Turned d1 W7 wx) (fun i _ => n - (intOf i).toNat)
  case atStart => exact ⟨0, Nat.zero_le _, rfl, Lib.hid (by rw [H0.out]; exact HF.out.1), Turned.refl _ _⟩
  case round =>
    obtain ⟨k, hk, rfl, hE, hT⟩ := hrel
    have x6 := HF.out.2.2.2.2.2.2.1.off hT HZ6.out.2.2
    by_cases hlt : k < n
    · obtain ⟨x, hx⟩ := Hat.out k hlt
      have hlk : k < ((c.accept.take k).map (fun b => !b) ++ c.accept.drop k).length := by rw [Hlen.out k (by omega)]; exact hlt
      obtain ⟨g, rfl, hg, hd1⟩ := RowE.head hE.out hlk
      have hcn : wr.cell? ⟨g, k, none⟩ = some (.bool x) := BoolsE.cell' hE.out (Hnow.out k x hx)
      have c2 := x6.cell 2 _ rfl
      have HX := Lib.hid (And.intro x6 (And.intro hcn (And.intro hE.out (And.intro hT hx))))
      clear hlk hx hE hT x6 hd1 hcn
      go_upto_region 7 with fail
      refine wp_region_free_seq (by kernel_rfl) [
              .val [] (fun _ => .pointer (some ⟨w6.heap.size, 2, none⟩)),
              .val [] (fun _ => .slice (some ⟨g, 0, none⟩) n k6),
              .val [] (fun _ => .int .i64 (k : Int)),
              .val [] (fun _ => .pointer (some ⟨w6.heap.size, 2, none⟩)),
              .val [] (fun _ => .slice (some ⟨g, 0, none⟩) n k6),
              .val [] (fun _ => .int .i64 (k : Int)),
              .val [] (fun _ => .pointer (some ⟨g, k, none⟩)),
              .val [] (fun _ => .bool x),
              .val [] (fun _ => .bool (!x)),
              .val [] (fun _ => .pointer (some ⟨g, k, none⟩))] 10 ?hp ?hfw ?deps ?oks ?hforced ?hf ?steps ?tail
      case hp => kernel_rfl
      case hfw => kernel_rfl
      case deps => kernel_rfl
      case hforced => kernel_rfl
      case hf => kernel_rfl
      case oks =>
        intro F hF
        simp only [List.mem_cons, List.not_mem_nil, or_false] at hF
        rcases hF with rfl | rfl | rfl | rfl | rfl | rfl | rfl | rfl | rfl | rfl
        all_goals trivial
      case steps =>
        refine Steps.cons ?_ ?_
        · intro _
          refine FreeStep.val [] _ rfl rfl fun u β W hW hn fr hfr K hK => ?_
          simp only [frameL, putL, Act.put, List.setIfInBounds_toArray, List.set_cons_zero, List.set_cons_succ, Nat.zero_add, Nat.reduceAdd] at hfr
          subst hfr
          have HK := Lib.hid hK
          clear hK hn
          go_simp
          exact HK.out
        refine Steps.cons ?_ ?_
        · intro _
          refine FreeStep.val [] _ rfl rfl fun u β W hW hn fr hfr K hK => ?_
          simp only [frameL, putL, Act.put, List.setIfInBounds_toArray, List.set_cons_zero, List.set_cons_succ, Nat.zero_add, Nat.reduceAdd] at hfr
          subst hfr
          have e0 : u 0 = .pointer (some ⟨w6.heap.size, 2, none⟩) := Have.get (k := 0) hn rfl
          simp only [e0] at hK
          have c0 : W.cell? ⟨w6.heap.size, 2, none⟩ = some (.slice (some ⟨g, 0, none⟩) n k6) := (HX.out.1.later hW).cell 2 _ rfl
          have HK := Lib.hid hK
          clear hK hn
          go_simp
          exact HK.out
        refine Steps.cons ?_ ?_
        · intro _
          refine FreeStep.val [] _ rfl rfl fun u β W hW hn fr hfr K hK => ?_
          simp only [frameL, putL, Act.put, List.setIfInBounds_toArray, List.set_cons_zero, List.set_cons_succ, Nat.zero_add, Nat.reduceAdd] at hfr
          subst hfr
          have HK := Lib.hid hK
          clear hK hn
          go_simp
          exact HK.out
        refine Steps.cons ?_ ?_
        · intro _
          refine FreeStep.val [] _ rfl rfl fun u β W hW hn fr hfr K hK => ?_
          simp only [frameL, putL, Act.put, List.setIfInBounds_toArray, List.set_cons_zero, List.set_cons_succ, Nat.zero_add, Nat.reduceAdd] at hfr
          subst hfr
          have HK := Lib.hid hK
          clear hK hn
          go_simp
          exact HK.out
        refine Steps.cons ?_ ?_
        · intro _
          refine FreeStep.val [] _ rfl rfl fun u β W hW hn fr hfr K hK => ?_
          simp only [frameL, putL, Act.put, List.setIfInBounds_toArray, List.set_cons_zero, List.set_cons_succ, Nat.zero_add, Nat.reduceAdd] at hfr
          subst hfr
          have e3 : u 3 = .pointer (some ⟨w6.heap.size, 2, none⟩) := Have.get (k := 3) hn rfl
          simp only [e3] at hK
          have c0 : W.cell? ⟨w6.heap.size, 2, none⟩ = some (.slice (some ⟨g, 0, none⟩) n k6) := (HX.out.1.later hW).cell 2 _ rfl
          have HK := Lib.hid hK
          clear hK hn
          go_simp
          exact HK.out
        refine Steps.cons ?_ ?_
        · intro _
          refine FreeStep.val [] _ rfl rfl fun u β W hW hn fr hfr K hK => ?_
          simp only [frameL, putL, Act.put, List.setIfInBounds_toArray, List.set_cons_zero, List.set_cons_succ, Nat.zero_add, Nat.reduceAdd] at hfr
          subst hfr
          have HK := Lib.hid hK
          clear hK hn
          go_simp
          exact HK.out
        refine Steps.cons ?_ ?_
        · intro _
          refine FreeStep.val [] _ rfl rfl fun u β W hW hn fr hfr K hK => ?_
          simp only [frameL, putL, Act.put, List.setIfInBounds_toArray, List.set_cons_zero, List.set_cons_succ, Nat.zero_add, Nat.reduceAdd] at hfr
          subst hfr
          have e4 : u 4 = .slice (some ⟨g, 0, none⟩) n k6 := Have.get (k := 4) hn rfl
          have e5 : u 5 = .int .i64 (k : Int) := Have.get (k := 5) hn rfl
          simp only [e4, e5] at hK
          have HK := Lib.hid hK
          clear hK hn
          go_simp
          exact HK.out
        refine Steps.cons ?_ ?_
        · intro _
          refine FreeStep.val [] _ rfl rfl fun u β W hW hn fr hfr K hK => ?_
          simp only [frameL, putL, Act.put, List.setIfInBounds_toArray, List.set_cons_zero, List.set_cons_succ, Nat.zero_add, Nat.reduceAdd] at hfr
          subst hfr
          have e6 : u 6 = .pointer (some ⟨g, k, none⟩) := Have.get (k := 6) hn rfl
          simp only [e6] at hK
          have c0 : W.cell? ⟨g, k, none⟩ = some (.bool x) := cell_later' HX.out.2.1 hW
          have HK := Lib.hid hK
          clear hK hn
          go_simp
          exact HK.out
        refine Steps.cons ?_ ?_
        · intro _
          refine FreeStep.val [] _ rfl rfl fun u β W hW hn fr hfr K hK => ?_
          simp only [frameL, putL, Act.put, List.setIfInBounds_toArray, List.set_cons_zero, List.set_cons_succ, Nat.zero_add, Nat.reduceAdd] at hfr
          subst hfr
          have e7 : u 7 = .bool x := Have.get (k := 7) hn rfl
          simp only [e7] at hK
          have HK := Lib.hid hK
          clear hK hn
          go_simp
          exact HK.out
        refine Steps.cons ?_ ?_
        · intro _
          refine FreeStep.val [] _ rfl rfl fun u β W hW hn fr hfr K hK => ?_
          simp only [frameL, putL, Act.put, List.setIfInBounds_toArray, List.set_cons_zero, List.set_cons_succ, Nat.zero_add, Nat.reduceAdd] at hfr
          subst hfr
          have e1 : u 1 = .slice (some ⟨g, 0, none⟩) n k6 := Have.get (k := 1) hn rfl
          have e2 : u 2 = .int .i64 (k : Int) := Have.get (k := 2) hn rfl
          simp only [e1, e2] at hK
          have HK := Lib.hid hK
          clear hK hn
          go_simp
          exact HK.out
        exact ⟨fun h => absurd h (by decide), trivial⟩
      case tail =>
        intro u β W hW hn hdis hbnd fr hfr
        simp only [frameL, putL, Act.put, List.setIfInBounds_toArray, List.set_cons_zero, List.set_cons_succ, Nat.zero_add, Nat.reduceAdd] at hfr
        subst hfr
        have e8 : u 8 = .bool (!x) := Have.get (k := 8) hn rfl
        have e9 : u 9 = .pointer (some ⟨g, k, none⟩) := Have.get (k := 9) hn rfl
        obtain ⟨x6, hcn, hE, hT, hx⟩ := HX.out
        have c0 : W.cell? ⟨g, k, none⟩ = some (.bool x) := cell_later' hcn hW
        have hEW := (bools_ok _).later hE hW
        have f0 := RowE.frozen hEW k
        have hp := RowE.put1 (f := fun x => Value.bool x) hEW k (!x)
        rw [Hset.out k x hx] at hp
        have HP := Lib.hid (And.intro hp.1 ((hT.trans (Turned.of_below hW)).trans hp.2))
        clear x6 hcn hE hT hx hEW hp hn hdis hbnd c2
        show wpOps _ _ _ [10] _ _
        rw [wpOps_cons]
        refine wpOp_step rfl (fun K hK => ?_)
        go_simp
        refine hK _ _ ?_
        clear hK
        unfold wpOps
        go_wp2
        go_roundw
        case rel => exact ⟨k + 1, by omega, by go_num, Lib.hid HP.out.1, HP.out.2⟩
        case measure => simp [intOf]; omega
    · have e : k = n := by omega
      subst e
      have hE1 := hE.out
      rw [Hall.out] at hE1
      obtain ⟨f1, f2, f3, f4, hnd, hx2, _, hB7, _⟩ := HF.out
      have x2 := hx2.off hT HZ6.out.2.1
      have hz := HZ6.out.1
      have hBw : Below w.heap.size w wr := hT.below hB7 hB7.size (fun b hb => by have := ((bools_ok _).lt f1 b hb).1; omega)
      have n2 := List.nodup_append.1 hnd
      have g2 := (push2_ok _).off f2 hT (fun b h1 h2 => n2.2.2 b h2 b (List.mem_append_left _ h1) rfl)
      have g3 := (ints3_ok _).off f3 hT (fun b h1 h2 => n2.2.2 b h2 b (List.mem_append_right _ (List.mem_append_left _ h1)) rfl)
      have g4 := (ints2_ok _).off f4 hT (fun b h1 h2 => n2.2.2 b h2 b (List.mem_append_right _ (List.mem_append_right _ h1)) rfl)
      have HG := Lib.hid (And.intro hE1 (And.intro g2 (And.intro g3 (And.intro g4 (And.intro hnd (And.intro hBw (And.intro x2 hz)))))))
      obtain ⟨c0, c1, c2, c3, c4, c5, cl⟩ := id x6.all6
      obtain ⟨e0, e1, e2, e3, e4, e5, el⟩ := id x2.all6
      have q0 := x2.frozen 0
      have q1 := x2.frozen 1
      have q2 := x2.frozen 2
      have q3 := x2.frozen 3
      have q4 := x2.frozen 4
      have q5 := x2.frozen 5
      clear hE hT hE1 f1 f2 f3 f4 hnd hx2 hB7 x2 hz hBw n2 g2 g3 g4 x6
      go_wp2
      obtain ⟨f1, f2, f3, f4, hnd, hBW, hbx, hszr⟩ := HG.out
      have x0' := hbx.set 0 (.int .i64 c.stack)
      have x1' := x0'.set 1 (.int .i64 c.start)
      have x2' := x1'.set 2 (.slice A6 k k6)
      have x3' := x2'.set 3 (.slice C6 c.call.length kc6)
      have x4' := x3'.set 4 (.slice R6 c.ret.length kr6)
      have x5' := x4'.set 5 (.slice I6 c.inner.length ki6)
      have hfr : ∀ (V : World) (i : Nat) (v : Value) (b : Nat), w.heap.size + 1 < b → (V.setCell ⟨w.heap.size + 1, i, none⟩ v).heap[b]? = V.heap[b]? := fun V i v b hb => Below.heap_setCell V ⟨w.heap.size + 1, i, none⟩ v b (fun e => by
        have h2 : b = w.heap.size + 1 := e
        omega)
      obtain ⟨Wf, hWf⟩ : ∃ Wf, Wf = ((((((wr.setCell ⟨w.heap.size + 1, 0, none⟩ (.int .i64 c.stack)).setCell ⟨w.heap.size + 1, 1, none⟩ (.int .i64 c.start)).setCell ⟨w.heap.size + 1, 2, none⟩ (.slice A6 k k6)).setCell ⟨w.heap.size + 1, 3, none⟩ (.slice C6 c.call.length kc6)).setCell ⟨w.heap.size + 1, 4, none⟩ (.slice R6 c.ret.length kr6)).setCell ⟨w.heap.size + 1, 5, none⟩ (.slice I6 c.inner.length ki6)) := ⟨_, rfl⟩
      have hkeep : ∀ b, w.heap.size + 1 < b → Wf.heap[b]? = wr.heap[b]? := fun b hb => by
        rw [hWf, hfr _ _ _ b hb, hfr _ _ _ b hb, hfr _ _ _ b hb, hfr _ _ _ b hb, hfr _ _ _ b hb, hfr _ _ _ b hb]
      have hBf : Below w.heap.size w Wf := by
        rw [hWf]
        exact ((((((hBW.setCell (p := ⟨w.heap.size + 1, 0, none⟩) (by simp) _).setCell (p := ⟨w.heap.size + 1, 1, none⟩) (by simp) _).setCell (p := ⟨w.heap.size + 1, 2, none⟩) (by simp) _).setCell (p := ⟨w.heap.size + 1, 3, none⟩) (by simp) _).setCell (p := ⟨w.heap.size + 1, 4, none⟩) (by simp) _).setCell (p := ⟨w.heap.size + 1, 5, none⟩) (by simp) _)
      rw [← hWf] at x5' ⊢
      have lt := hszr.1
      have F1 := bools_base hszr.2.2 _ _ _ _ ((bools_ok _).kept f1 fun b hb => hkeep b (by have := ((bools_ok _).lt f1 b hb).1; omega))
      have F2 := pushes2_base hszr.2.2 _ _ _ _ ((push2_ok _).kept f2 fun b hb => hkeep b (by have := ((push2_ok _).lt f2 b hb).1; omega))
      have F3 := ints3_base hszr.2.2 _ _ _ _ ((ints3_ok _).kept f3 fun b hb => hkeep b (by have := ((ints3_ok _).lt f3 b hb).1; omega))
      have F4 := ints2_base hszr.2.2 _ _ _ _ ((ints2_ok _).kept f4 fun b hb => hkeep b (by have := ((ints2_ok _).lt f4 b hb).1; omega))
      have y0' := x5'.cell 0 (.int .i64 c.stack) rfl
      have y1' := x5'.cell 1 (.int .i64 c.start) rfl
      have y2' := x5'.cell 2 (.slice A6 k k6) rfl
      have y3' := x5'.cell 3 (.slice C6 c.call.length kc6) rfl
      have y4' := x5'.cell 4 (.slice R6 c.ret.length kr6) rfl
      have y5' := x5'.cell 5 (.slice I6 c.inner.length ki6) rfl
      have fin : CkE w.heap.size Wf (.agg #[.int .i64 c.stack, .int .i64 c.start, .slice A6 k k6, .slice C6 c.call.length kc6, .slice R6 c.ret.length kr6, .slice I6 c.inner.length ki6]) (oppC c) (d1 ++ (d2 ++ (d3 ++ d4))) := by
        refine ⟨_, _, _, _, _, _, _, _, rfl, ?_, F2, F3, F4, rfl, hnd⟩
        exact F1
      clear hWf hkeep hfr x0' x1' x2' x3' x4' x5' f1 f2 f3 f4 F1 F2 F3 F4
      exact bodyPost_ret (v := .tuple #[.agg #[.int .i64 c.stack, .int .i64 c.start, .slice A6 k k6, .slice C6 c.call.length kc6, .slice R6 c.ret.length kr6, .slice I6 c.inner.length ki6], .int .i64 0]) (by simp [results, Try.results11, go_sem, y0', y1', y2', y3', y4', y5']) rfl ⟨_, _, rfl, ck_base (Nat.zero_le _) fin, hBf⟩


theorem szL_bd {α : Type} {f : α → Nat} {M : Nat} {xs : List α} (h : ∀ x ∈ xs, f x ≤ M) : szL f xs ≤ xs.length * M := by
  induction xs with
  | nil => simp [szL]
  | cons x xs ih =>
    have h1 := h x (List.mem_cons_self ..)
    have h2 := ih fun y hy => h y (List.mem_cons_of_mem _ hy)
    simp only [szL, List.map_cons, List.sum_cons, List.length_cons] at h2 ⊢
    rw [Nat.succ_mul]
    omega
theorem bd_of_ok {c : Ck} (h : OkC c) : BdC c := by
  obtain ⟨⟨c1, c2⟩, ⟨r1, r2⟩, ⟨i1, i2⟩⟩ := lens_of h
  have n2 := h.n2
  have s1 : szL lenP c.call ≤ c.call.length * 4 := szL_bd fun x hx => by unfold lenP; have := c2 x hx; omega
  have s2 : szL (szL lenI) c.ret ≤ c.ret.length * 4000 := szL_bd fun x hx => by
    have h1 := (r2 x hx).1
    have : szL lenI x ≤ x.length * 100 := szL_bd fun y hy => by unfold lenI; exact ((r2 x hx).2 y hy).2
    have h3 : x.length * 100 ≤ 40 * 100 := Nat.mul_le_mul_right 100 h1
    omega
  have s3 : szL lenI c.inner ≤ c.inner.length * 2 := szL_bd fun x hx => by unfold lenI; have := i2 x hx; omega
  refine ⟨by unfold Bd1; omega, ⟨by omega, fun x hx => by have := c2 x hx; unfold Bd1; omega⟩, ⟨by omega, fun x hx => ⟨by have := (r2 x hx).1; omega, fun y hy => by have := ((r2 x hx).2 y hy).2; unfold Bd1; omega⟩⟩, ⟨by omega, fun x hx => by have := i2 x hx; unfold Bd1; omega⟩, ?_⟩
  unfold szC
  omega
theorem spec_Opp (c : Ck) : ∀ base v bs w, BdC c → CkE base w v c bs → Calls Try.prog 11 #[v] w (PostR CkE (if okM c then oppC c else nilCk) (if okM c then 0 else 1) w) := by
  intro base v bs w hbd hck
  cases h : okM c with
  | true => exact spec_Opp_yes w hbd hck h
  | false => exact spec_Opp_no w hbd hck h
theorem both_OppositeChecker (c : Ck) : ∃ (rk : Ck) (r1 : Int), BdC rk ∧
    (∀ base v bs w, BdC c → CkE base w v c bs → Calls Try.prog 11 #[v] w (PostR CkE rk r1 w)) ∧
    (∀ base v bs w, BdC c → CkE base w v c bs → Calls Try.prog 13 #[v] w (PostV CkE rk r1 w)) := by
  refine ⟨_, _, ?_, spec_Opp c, impl_Opp c⟩
  cases h : okM c with
  | true =>
    have hb := bd_of_ok (okC_of h)
    rw [if_pos rfl]
    exact ⟨by have := hb.accept; unfold Bd1 at *; simpa [oppC] using this, hb.call, hb.ret, hb.inner, by have := hb.sum; unfold szC at *; simpa [oppC] using this⟩
  | false =>
    rw [if_neg (by simp)]
    refine ⟨?_, ⟨?_, ?_⟩, ⟨?_, ?_⟩, ⟨?_, ?_⟩, ?_⟩ <;> simp [nilCk, Bd1, szC, szL]
end Go.Proofs.Ytdehehdcjfaefab
