/- OppositeChecker of the program. -/
import Derived.Test.YtdehehdcjfaefabWith4
import Derived.Test.YtdehehdcjfaefabRunM
import Derived.Test.YtdehehdcjfaefabVWalk
import Derived.Test.YtdehehdcjfaefabPlainM
import Derived.Test.YtdehehdcjfaefabPosts
import Derived.Deep.AppendLies
namespace Go.Proofs.Ytdehehdcjfaefab
open Go.RowKit
set_option linter.unusedVariables false

theorem inL_of {xs : List Int} {len n : Int} {m : Nat} (hm : n = (m : Int)) (h : listB xs len n = true) : InL m xs := by
  subst hm
  intro x hx
  simp only [listB, Bool.and_eq_true, allB, List.all_eq_true] at h
  exact inB_yes (h.2 x hx)
theorem goesIn_of {c : Ck} (h : OkC c) : GoesIn c where
  n := h.n2
  start := h.start
  lc := h.lc
  lr := h.lr
  li := h.li
  call := by
    intro x hx
    obtain ⟨i, hi, rfl⟩ := List.mem_iff_getElem.1 hx
    obtain ⟨a, b, hab, ha, hb⟩ := h.call i (by rw [← h.lc]; exact hi)
    rw [List.getElem?_eq_getElem hi] at hab
    rw [Option.some.inj hab]
    simp only [pB, Bool.and_eq_true] at ha hb
    intro p hp
    rcases List.mem_cons.1 hp with rfl | hp
    · exact inB_yes ha.1
    · rw [List.mem_singleton.1 hp]; exact inB_yes hb.1
  ret := by
    intro x hx
    obtain ⟨i, hi, rfl⟩ := List.mem_iff_getElem.1 hx
    obtain ⟨a, b, hab, ha, hb⟩ := h.ret i (by rw [← h.lr]; exact hi)
    rw [List.getElem?_eq_getElem hi] at hab
    rw [Option.some.inj hab]
    intro p hp
    rcases List.mem_cons.1 hp with rfl | hp
    · exact inL_of rfl ha
    · rw [List.mem_singleton.1 hp]; exact inL_of rfl hb
  inner := by
    intro x hx
    obtain ⟨i, hi, rfl⟩ := List.mem_iff_getElem.1 hx
    obtain ⟨a, b, hab, ha, hb⟩ := h.inner i (by rw [← h.li]; exact hi)
    rw [List.getElem?_eq_getElem hi] at hab
    rw [Option.some.inj hab]
    intro p hp
    rcases List.mem_cons.1 hp with rfl | hp
    · exact inB_yes ha
    · rw [List.mem_singleton.1 hp]; exact inB_yes hb

/-- The checker that takes all other words. -/
def oppC (c : Ck) : Ck := { c with accept := c.accept.map fun b => !b }
theorem idL_succ (n : Nat) : idL (n + 1) = idL n ++ [(n : Int)] := by simp [idL, List.range_succ]
theorem opp_set {xs : List Bool} {j : Nat} {x : Bool} (h : xs[j]? = some x) : ((xs.take j).map (fun b => !b) ++ xs.drop j).set j (!x) = (xs.take (j + 1)).map (fun b => !b) ++ xs.drop (j + 1) := by
  have hj := (List.getElem?_eq_some_iff.1 h).1
  have hx := (List.getElem?_eq_some_iff.1 h).2
  rw [List.set_append_right _ _ (by simp; omega), List.take_add_one, h]
  simp only [List.map_append, Option.toList_some, List.map_cons, List.map_nil, List.length_map, List.length_take, List.append_assoc, List.singleton_append]
  rw [Nat.min_eq_left (by omega), Nat.sub_self, List.drop_eq_getElem_cons hj, List.set_cons_zero]

set_option maxHeartbeats 3200000 in
set_option maxRecDepth 100000 in
theorem impl_Opp_no {base : Nat} {v : Value} {c : Ck} {bs : List Nat} (w : World) (hbd : BdC c) (hck : CkE base w v c bs) (h : okM c = false) :
    Calls Try.prog 13 #[v] w (PostV CkE nilCk 1 w) := by
  have hck0 := hck
  obtain ⟨va, vc, vr, vi, _, _, _, _, rfl, _⟩ := hck
  have hB := ((Below.refl w.heap.size w).alloc (Nat.le_refl _) (.cells #[.int .i64 c.stack, .int .i64 c.start, va, vc, vr, vi] 31)).alloc (by simp) (.cells #[.int .i64 0, .int .i64 0, .slice none 0 0, .slice none 0 0, .slice none 0 0, .slice none 0 0] 31)
  have x1 := (Bx.new w 31 #[.int .i64 c.stack, .int .i64 c.start, va, vc, vr, vi]).alloc (.cells #[.int .i64 0, .int .i64 0, .slice none 0 0, .slice none 0 0, .slice none 0 0, .slice none 0 0] 31)
  have x2 := Bx.new (w.alloc (.cells #[.int .i64 c.stack, .int .i64 c.start, va, vc, vr, vi] 31)) 31 #[.int .i64 0, .int .i64 0, .slice none 0 0, .slice none 0 0, .slice none 0 0, .slice none 0 0]
  rw [World.size_alloc] at x2
  have hv := impl_ValidChecker _ hbd ((ck_ok _).later hck0 hB)
  rw [h] at hv
  have Hv := Lib.hid hv
  have HB := Lib.hid hB
  have X2 := Lib.hid x2
  clear hv hB hck0 hbd h x2
  obtain ⟨y0, y1, y2, y3, y4, y5, yl⟩ := x1.all6
  go_enter Try.func13, Try.ntmps13
  go_wp2_with fail
  refine Hv.out.mono ?_
  rintro e w1 ⟨rfl, hb1⟩
  clear y0 y1 y2 y3 y4 y5 yl
  have x2 := X2.out.later hb1
  have hB1 := HB.out.trans (hb1.mono HB.out.size)
  obtain ⟨c0, c1, c2, c3, c4, c5, cl⟩ := id x2.all6
  have q0 := x2.frozen 0
  have q1 := x2.frozen 1
  have q2 := x2.frozen 2
  have q3 := x2.frozen 3
  have q4 := x2.frozen 4
  have q5 := x2.frozen 5
  go_wp2
  clear c0 c1 c2 c3 c4 c5 q0 q1 q2 q3 q4 q5
  have z0 := x2.set 0 (.int .i64 0)
  have z1 := z0.set 1 (.int .i64 0)
  have z2 := z1.set 2 (.slice none 0 0)
  have z3 := z2.set 3 (.slice none 0 0)
  have z4 := z3.set 4 (.slice none 0 0)
  have z5 := z4.set 5 (.slice none 0 0)
  have y0 := z5.cell 0 (.int .i64 0) rfl
  have y1 := z5.cell 1 (.int .i64 0) rfl
  have y2 := z5.cell 2 (.slice none 0 0) rfl
  have y3 := z5.cell 3 (.slice none 0 0) rfl
  have y4 := z5.cell 4 (.slice none 0 0) rfl
  have y5 := z5.cell 5 (.slice none 0 0) rfl
  have hBf := ((((((hB1.setCell (p := ⟨w.heap.size + 1, 0, none⟩) (by simp) (.int .i64 0)).setCell (p := ⟨w.heap.size + 1, 1, none⟩) (by simp) (.int .i64 0)).setCell (p := ⟨w.heap.size + 1, 2, none⟩) (by simp) (.slice none 0 0)).setCell (p := ⟨w.heap.size + 1, 3, none⟩) (by simp) (.slice none 0 0)).setCell (p := ⟨w.heap.size + 1, 4, none⟩) (by simp) (.slice none 0 0)).setCell (p := ⟨w.heap.size + 1, 5, none⟩) (by simp) (.slice none 0 0))
  exact bodyPost_ret (v := .tuple #[.agg #[.int .i64 0, .int .i64 0, .slice none 0 0, .slice none 0 0, .slice none 0 0, .slice none 0 0], .int .i64 1]) (by simp [results, Try.results13, go_sem, y0, y1, y2, y3, y4, y5]) rfl ⟨_, [], rfl, nil_ck _ _, hBf⟩

set_option maxHeartbeats 1600000 in
theorem impl_cnt {s0 s1 : Int} {A : Option Addr} {n ka : Nat} {vc vr vi : Value} (w : World) (hn : n ≤ 1048576) : Calls Try.prog 43 #[.agg #[.int .i64 s0, .int .i64 s1, .slice A n ka, vc, vr, vi]] w (fun e w' => e = .returned (.int .i64 n) ∧ Below w.heap.size w w') := by
  have hB := (Below.refl w.heap.size w).alloc (Nat.le_refl _) (.cells #[.int .i64 s0, .int .i64 s1, .slice A n ka, vc, vr, vi] 31)
  obtain ⟨y0, y1, y2, y3, y4, y5, yl⟩ := (Bx.new w 31 #[.int .i64 s0, .int .i64 s1, .slice A n ka, vc, vr, vi]).all6
  go_enter Try.func43, Try.ntmps43
  go_wp2
  go_ret
  exact ⟨rfl, hB⟩

set_option maxHeartbeats 6400000 in
set_option maxRecDepth 100000 in
theorem impl_Opp_yes {base : Nat} {v : Value} {c : Ck} {bs : List Nat} (w : World) (hbd : BdC c) (hck : CkE base w v c bs) (h : okM c = true) :
    Calls Try.prog 13 #[v] w (PostV CkE (oppC c) 0 w) := by
  obtain ⟨i0, hi, hz0, hz1, hz2⟩ := info_parts toInfo_i64
  have hgo := goesIn_of (okC_of h)
  have hck0 := hck
  obtain ⟨va, vc, vr, vi, b1, b2, b3, b4, rfl, h1, _⟩ := hck
  obtain ⟨A, ka, rfl⟩ := RowE.slice h1
  obtain ⟨n, hn⟩ : ∃ n, n = c.accept.length := ⟨_, rfl⟩
  have hn40 := hgo.n
  rw [← hn] at h1 hck0 hn40 ⊢
  have hB := ((Below.refl w.heap.size w).alloc (Nat.le_refl _) (.cells #[.int .i64 c.stack, .int .i64 c.start, .slice A n ka, vc, vr, vi] 31)).alloc (by simp) (.cells #[.int .i64 0, .int .i64 0, .slice none 0 0, .slice none 0 0, .slice none 0 0, .slice none 0 0] 31)
  have x1 := (Bx.new w 31 #[.int .i64 c.stack, .int .i64 c.start, .slice A n ka, vc, vr, vi]).alloc (.cells #[.int .i64 0, .int .i64 0, .slice none 0 0, .slice none 0 0, .slice none 0 0, .slice none 0 0] 31)
  have x2 := Bx.new (w.alloc (.cells #[.int .i64 c.stack, .int .i64 c.start, .slice A n ka, vc, vr, vi] 31)) 31 #[.int .i64 0, .int .i64 0, .slice none 0 0, .slice none 0 0, .slice none 0 0, .slice none 0 0]
  rw [World.size_alloc] at x2
  have hv := impl_ValidChecker _ hbd ((ck_ok _).later hck0 hB)
  rw [h] at hv
  have Hv := Lib.hid hv
  have Hck := Lib.hid hck0
  have H1 := Lib.hid h1
  have Hgo := Lib.hid hgo
  have Hbd := Lib.hid hbd
  have Hn := Lib.hid hn
  have hbb := hB.size
  have HB := Lib.hid (And.intro hB (And.intro x1 x2))
  clear hv hB hck0 hbd h x2 h1 hgo hn hbb
  obtain ⟨y0, y1, y2, y3, y4, y5, yl⟩ := x1.all6
  clear x1
  go_enter Try.func13, Try.ntmps13
  go_wp2_with fail
  refine Hv.out.mono ?_
  rintro e w1 ⟨rfl, hb1⟩
  clear y0 y1 y2 y3 y4 y5 yl
  have x1 := HB.out.2.1.later hb1
  have HC := Lib.hid (And.intro (HB.out.1.trans (hb1.mono HB.out.1.size)) (And.intro x1 (HB.out.2.2.later hb1)))
  clear hb1 HB Hv
  obtain ⟨y0, y1, y2, y3, y4, y5, yl⟩ := x1.all6
  clear x1
  go_wp2_with fail
  refine (impl_cnt w1 (by omega)).mono ?_
  rintro e w2 ⟨rfl, hb2⟩
  clear y0 y1 y2 y3 y4 y5 yl
  have HD := Lib.hid (And.intro (HC.out.1.trans (hb2.mono HC.out.1.size)) (And.intro (HC.out.2.1.later hb2) (HC.out.2.2.later hb2)))
  clear hb2 HC
  have Hs := Lib.hid (And.intro idL_succ idL_len)
  go_wp2
  go_loopw [4, 15] (fun sm i wr => ∃ j : Nat, j ≤ n ∧ i = .int .i64 j ∧ (∃ bs, IntsE w2.heap.size wr sm (idL j) bs) ∧ Below w2.heap.size w2 wr) (fun _ i _ => n - (intOf i).toNat)
  case atStart => exact ⟨0, Nat.zero_le _, rfl, ⟨[], by simpa [idL] using World.ownsRow_nil _ _ _ _, rfl⟩, Below.refl _ _⟩
  case round =>
    obtain ⟨j, hj, rfl, ⟨bs, hS⟩, hBr⟩ := hrel
    obtain ⟨A', ca, e'⟩ := RowE.slice hS
    rw [Hs.out.2 j] at e'
    subst e'
    by_cases hlt : j < n
    · have hrow := hS.1
      rw [Hs.out.2 j] at hrow
      have Hb := Lib.hid (And.intro hS (And.intro hBr hrow))
      have hsz := hBr.size
      clear hS hBr hrow
      go_wp2_with (at_builtin; refine wpList_append_lies _ rfl _ _ 38 rfl w2.heap.size 2 i0 (.int .i64 0) 1 8 Try.underlying38 hi hz0 hz1 hz2 rfl (by decide) _ j _ rfl (Hb.out.2.2.alloc _) ⟨wr.heap.size, 0, none⟩ 1 1 [.int .i64 (j : Int)] rfl rfl (World.news_of_block (Bx.new wr _ _)) (one_sing rfl) (by decide) ?c1 ?c2 ?c3 _ rfl ?_)
      case c1 => unfold maxLen; omega
      case c2 => omega
      case c3 => simp; omega
      intro g1 cap1 w5 hown hg5 hat hltg
      have hB6 : Below w2.heap.size w2 w5 := (Hb.out.2.1.alloc Hb.out.2.1.size _).grown hg5 (by simp; omega) (fun k hk => ((ints_ok _).lt Hb.out.1 k (by rw [Hb.out.1.2, hk]; simp)).1)
      have hS6 : IntsE w2.heap.size w5 (.slice (some ⟨g1, 0, none⟩) (j + 1) cap1) (idL (j + 1)) [g1] := by
        rw [Hs.out.1 j]
        refine ⟨?_, rfl⟩
        rw [List.length_append, Hs.out.2 j, List.flatMap_append]
        exact hown
      clear hown hg5 hat
      go_wp2
      go_roundw
      case rel => exact ⟨j + 1, by omega, by go_num, ⟨_, hS6⟩, hB6⟩
      case measure => simp [intOf]; omega
    · have e : j = n := by omega
      subst e
      have hgo := Hgo.out
      have hB3 := HD.out.1.trans (hBr.mono HD.out.1.size)
      have x1 := HD.out.2.1.later hBr
      have x2 := HD.out.2.2.later hBr
      have hws := impl_withStates (base := base) (b := w2.heap.size) (list := idL j) wr Hbd.out hgo ((ck_ok _).later Hck.out hB3) hS (by rw [idL_len]; omega) (by rw [← Hn.out]; exact idL_in j)
      rw [show wsC c (idL j) = c by rw [Hn.out]; exact wsC_id hgo] at hws
      have Hws := Lib.hid hws
      have HE := Lib.hid (And.intro hB3 (And.intro x1 x2))
      obtain ⟨y0, y1, y2, y3, y4, y5, yl⟩ := x1.all6
      clear hws hB3 x1 x2 hBr hS HD
      go_wp2_with fail
      refine Hws.out.mono ?_
      rintro e w6 ⟨v6, bs6, rfl, E6, hb6⟩
      clear y0 y1 y2 y3 y4 y5 yl Hws
      obtain ⟨va6, vc6, vr6, vi6, d1, d2, d3, d4, rfl, f1, f2, f3, f4, hbs6, hnd6⟩ := E6
      rw [hbs6] at hnd6
      obtain ⟨A6, k6, e6⟩ := RowE.slice f1
      rw [← Hn.out] at e6
      subst e6
      obtain ⟨C6, kc6, rfl⟩ := ManyE.slice f2
      obtain ⟨R6, kr6, rfl⟩ := ManyE.slice f3
      obtain ⟨I6, ki6, rfl⟩ := ManyE.slice f4
      have hn7 := (Below.refl w6.heap.size w6).alloc (Nat.le_refl _) (.cells #[.int .i64 c.stack, .int .i64 c.start, .slice A6 j k6, (.slice C6 c.call.length kc6), (.slice R6 c.ret.length kr6), (.slice I6 c.inner.length ki6)] 31)
      have x6 := Bx.new w6 31 #[.int .i64 c.stack, .int .i64 c.start, .slice A6 j k6, (.slice C6 c.call.length kc6), (.slice R6 c.ret.length kr6), (.slice I6 c.inner.length ki6)]
      obtain ⟨W7, hW7⟩ : ∃ W7, W7 = w6.alloc (.cells #[.int .i64 c.stack, .int .i64 c.start, .slice A6 j k6, (.slice C6 c.call.length kc6), (.slice R6 c.ret.length kr6), (.slice I6 c.inner.length ki6)] 31) := ⟨_, rfl⟩
      rw [← hW7] at hn7 x6
      have hb67 := hb6.trans (hn7.mono hb6.size)
      have x1 := HE.out.2.1.later hb67
      have x2 := HE.out.2.2.later hb67
      have hB7 := HE.out.1.trans (hb67.mono HE.out.1.size)
      have HF := Lib.hid (And.intro ((bools_ok _).later f1 hn7) (And.intro ((push2_ok _).later f2 hn7) (And.intro ((ints3_ok _).later f3 hn7) (And.intro ((ints2_ok _).later f4 hn7) (And.intro hnd6 (And.intro x1 (And.intro x2 (And.intro x6 (And.intro hB7 ((bools_ok _).lt f1))))))))))
      have HW7 := Lib.hid hW7
      have hsz6 : (w.heap.size + 1 < wr.heap.size ∧ wr.heap.size ≤ w6.heap.size ∧ w.heap.size ≤ wr.heap.size) ∧ (∀ b ∈ b1, b ∉ d1) ∧ (w.heap.size + 1 ∉ d1) ∧ (w.heap.size ∉ d1) ∧ (w6.heap.size ∉ d1) := by
        have t1 := HE.out.2.2.lt
        have t2 := hb6.size
        have t3 := HE.out.1.size
        have t4 := fun b hb => (bools_ok _).lt f1 b hb
        refine ⟨⟨t1, t2, t3⟩, fun b h1 h2 => ?_, fun h => ?_, fun h => ?_, fun h => ?_⟩
        · have := (t4 b h2).1
          have := ((bools_ok _).lt H1.out b h1).2
          omega
        · have := (t4 _ h).1; omega
        · have := (t4 _ h).1; omega
        · have := (t4 _ h).2; omega
      have HZ6 := Lib.hid hsz6
      obtain ⟨y0, y1, y2, y3, y4, y5, yl⟩ := x1.all6
      have y2x : (w6.alloc (.cells #[.int .i64 c.stack, .int .i64 c.start, .slice A6 j k6, .slice C6 c.call.length kc6, .slice R6 c.ret.length kr6, .slice I6 c.inner.length ki6] 31)).cell? ⟨w.heap.size, 2, none⟩ = some (.slice A j ka) := by rw [← hW7]; exact y2
      clear y0 y1 y2 y3 y4 y5 yl
      clear f1 f2 f3 f4 hbs6 hnd6 hn7 x6 hb67 x1 x2 hB7 hW7 hb6 HE hsz6
      have Hset := Lib.hid (fun (k : Nat) (x : Bool) (hx : c.accept[k]? = some x) => opp_set hx)
      have Hat := Lib.hid (fun (k : Nat) (hk : k < c.accept.length) => (⟨_, List.getElem?_eq_getElem hk⟩ : ∃ x, c.accept[k]? = some x))
      have H0 := Lib.hid (show (c.accept.take 0).map (fun b => !b) ++ c.accept.drop 0 = c.accept by simp)
      have Hall := Lib.hid (show (c.accept.take c.accept.length).map (fun b => !b) ++ c.accept.drop c.accept.length = c.accept.map (fun b => !b) by simp)
      have Hlen := Lib.hid (fun (k : Nat) (hk : k ≤ c.accept.length) => (show ((c.accept.take k).map (fun b => !b) ++ c.accept.drop k).length = c.accept.length by simp; omega))
      rw [← Hn.out] at Hat Hall Hlen
      go_wp2_with fail
      rw [← HW7.out]
      clear y2x
      go_loopw [29] (fun i wx => ∃ k : Nat, k ≤ j ∧ i = .int .i64 k ∧ Hid (BoolsE wr.heap.size wx (.slice A6 j k6) ((c.accept.take k).map (fun b => !b) ++ c.accept.drop k) d1) ∧ Turned d1 W7 wx) (fun i _ => j - (intOf i).toNat)
      case atStart => exact ⟨0, Nat.zero_le _, rfl, Lib.hid (by rw [H0.out]; exact HF.out.1), Turned.refl _ _⟩
      case round =>
        obtain ⟨k, hk, rfl, hE, hT⟩ := hrel
        have x1 := HF.out.2.2.2.2.2.1.off hT HZ6.out.2.2.2.1
        have x6 := HF.out.2.2.2.2.2.2.2.1.off hT HZ6.out.2.2.2.2
        obtain ⟨y0, y1, y2, y3, y4, y5, yl⟩ := x1.all6
        clear x1
        by_cases hlt : k < j
        · obtain ⟨x, hx⟩ := Hat.out k hlt
          have hB7 := HF.out.2.2.2.2.2.2.2.2.1
          have hol := (bools_ok _).off ((bools_ok _).later H1.out hB7) hT HZ6.out.2.1
          obtain ⟨go, rfl, hgo, _⟩ := RowE.head hol (by rw [← Hn.out]; exact hlt)
          have hco : wr.cell? ⟨go, k, none⟩ = _ := BoolsE.cell' hol hx
          have hlk : k < ((c.accept.take k).map (fun b => !b) ++ c.accept.drop k).length := by rw [Hlen.out k (by omega)]; exact hlt
          obtain ⟨g, rfl, hg, hd1⟩ := RowE.head hE.out hlk
          obtain ⟨z, hz⟩ : ∃ z, ((c.accept.take k).map (fun b => !b) ++ c.accept.drop k)[k]? = some z := ⟨_, List.getElem?_eq_getElem hlk⟩
          have hcn : wr.cell? ⟨g, k, none⟩ = _ := BoolsE.cell' hE.out hz
          have hfn := RowE.frozen hE.out k
          have hp := RowE.put1 (f := fun x => Value.bool x) hE.out k (!x)
          rw [Hset.out k x hx] at hp
          have c2 := x6.cell 2 _ rfl
          have HP := Lib.hid (And.intro hp.1 (hT.trans hp.2))
          clear hp hz hlk hol hx hB7 hE hT x6 hd1
          go_wp2
          go_roundw
          case rel => exact ⟨k + 1, by omega, by go_num, HP.out.1, HP.out.2⟩
          case measure => simp [intOf]; omega
        · have e : k = j := by omega
          subst e
          have hE1 := hE.out
          rw [Hall.out] at hE1
          obtain ⟨f1, f2, f3, f4, hnd, _, hx2, _, hB7, _⟩ := HF.out
          have x2 := hx2.off hT HZ6.out.2.2.1
          have hz := HZ6.out.1
          have hBw : Below w.heap.size w wr := hT.below hB7 hB7.size (fun b hb => by have := ((bools_ok _).lt f1 b hb).1; omega)
          have n2 := List.nodup_append.1 hnd
          have g2 := (push2_ok _).off f2 hT (fun b h1 h2 => n2.2.2 b h2 b (List.mem_append_left _ h1) rfl)
          have g3 := (ints3_ok _).off f3 hT (fun b h1 h2 => n2.2.2 b h2 b (List.mem_append_right _ (List.mem_append_left _ h1)) rfl)
          have g4 := (ints2_ok _).off f4 hT (fun b h1 h2 => n2.2.2 b h2 b (List.mem_append_right _ (List.mem_append_right _ h1)) rfl)
          have HG := Lib.hid (And.intro hE1 (And.intro g2 (And.intro g3 (And.intro g4 (And.intro hnd (And.intro hBw (And.intro x2 hz)))))))
          obtain ⟨c0, c1, c2, c3, c4, c5, cl⟩ := id x6.all6
          obtain ⟨e0, e1, e2, e3, e4, e5, el⟩ := id x2.all6
          have q0 := x2.frozen 0
          have q1 := x2.frozen 1
          have q2 := x2.frozen 2
          have q3 := x2.frozen 3
          have q4 := x2.frozen 4
          have q5 := x2.frozen 5
          clear hE hT hE1 f1 f2 f3 f4 hnd hx2 hB7 x2 hz hBw n2 g2 g3 g4 x6 y0 y1 y2 y3 y4 y5 yl
          go_wp2
          obtain ⟨f1, f2, f3, f4, hnd, hBW, hbx, hszr⟩ := HG.out
          have x0' := hbx.set 0 (.int .i64 c.stack)
          have x1' := x0'.set 1 (.int .i64 c.start)
          have x2' := x1'.set 2 (.slice A6 k k6)
          have x3' := x2'.set 3 (.slice C6 c.call.length kc6)
          have x4' := x3'.set 4 (.slice R6 c.ret.length kr6)
          have x5' := x4'.set 5 (.slice I6 c.inner.length ki6)
          have hfr : ∀ (V : World) (i : Nat) (v : Value) (b : Nat), w.heap.size + 1 < b → (V.setCell ⟨w.heap.size + 1, i, none⟩ v).heap[b]? = V.heap[b]? := fun V i v b hb => Below.heap_setCell V ⟨w.heap.size + 1, i, none⟩ v b (fun e => by
            have h2 : b = w.heap.size + 1 := e
            omega)
          obtain ⟨Wf, hWf⟩ : ∃ Wf, Wf = ((((((wr.setCell ⟨w.heap.size + 1, 0, none⟩ (.int .i64 c.stack)).setCell ⟨w.heap.size + 1, 1, none⟩ (.int .i64 c.start)).setCell ⟨w.heap.size + 1, 2, none⟩ (.slice A6 k k6)).setCell ⟨w.heap.size + 1, 3, none⟩ (.slice C6 c.call.length kc6)).setCell ⟨w.heap.size + 1, 4, none⟩ (.slice R6 c.ret.length kr6)).setCell ⟨w.heap.size + 1, 5, none⟩ (.slice I6 c.inner.length ki6)) := ⟨_, rfl⟩
          have hkeep : ∀ b, w.heap.size + 1 < b → Wf.heap[b]? = wr.heap[b]? := fun b hb => by
            rw [hWf, hfr _ _ _ b hb, hfr _ _ _ b hb, hfr _ _ _ b hb, hfr _ _ _ b hb, hfr _ _ _ b hb, hfr _ _ _ b hb]
          have hBf : Below w.heap.size w Wf := by
            rw [hWf]
            exact ((((((hBW.setCell (p := ⟨w.heap.size + 1, 0, none⟩) (by simp) _).setCell (p := ⟨w.heap.size + 1, 1, none⟩) (by simp) _).setCell (p := ⟨w.heap.size + 1, 2, none⟩) (by simp) _).setCell (p := ⟨w.heap.size + 1, 3, none⟩) (by simp) _).setCell (p := ⟨w.heap.size + 1, 4, none⟩) (by simp) _).setCell (p := ⟨w.heap.size + 1, 5, none⟩) (by simp) _)
          rw [← hWf] at x5' ⊢
          have lt := hszr.1
          have F1 := bools_base hszr.2.2 _ _ _ _ ((bools_ok _).kept f1 fun b hb => hkeep b (by have := ((bools_ok _).lt f1 b hb).1; omega))
          have F2 := pushes2_base hszr.2.2 _ _ _ _ ((push2_ok _).kept f2 fun b hb => hkeep b (by have := ((push2_ok _).lt f2 b hb).1; omega))
          have F3 := ints3_base hszr.2.2 _ _ _ _ ((ints3_ok _).kept f3 fun b hb => hkeep b (by have := ((ints3_ok _).lt f3 b hb).1; omega))
          have F4 := ints2_base hszr.2.2 _ _ _ _ ((ints2_ok _).kept f4 fun b hb => hkeep b (by have := ((ints2_ok _).lt f4 b hb).1; omega))
          have y0' := x5'.cell 0 (.int .i64 c.stack) rfl
          have y1' := x5'.cell 1 (.int .i64 c.start) rfl
          have y2' := x5'.cell 2 (.slice A6 k k6) rfl
          have y3' := x5'.cell 3 (.slice C6 c.call.length kc6) rfl
          have y4' := x5'.cell 4 (.slice R6 c.ret.length kr6) rfl
          have y5' := x5'.cell 5 (.slice I6 c.inner.length ki6) rfl
          have fin : CkE w.heap.size Wf (.agg #[.int .i64 c.stack, .int .i64 c.start, .slice A6 k k6, .slice C6 c.call.length kc6, .slice R6 c.ret.length kr6, .slice I6 c.inner.length ki6]) (oppC c) (d1 ++ (d2 ++ (d3 ++ d4))) := by
            refine ⟨_, _, _, _, _, _, _, _, rfl, ?_, F2, F3, F4, rfl, hnd⟩
            exact F1
          clear hWf hkeep hfr x0' x1' x2' x3' x4' x5' f1 f2 f3 f4 F1 F2 F3 F4
          exact bodyPost_ret (v := .tuple #[.agg #[.int .i64 c.stack, .int .i64 c.start, .slice A6 k k6, .slice C6 c.call.length kc6, .slice R6 c.ret.length kr6, .slice I6 c.inner.length ki6], .int .i64 0]) (by simp [results, Try.results13, go_sem, y0', y1', y2', y3', y4', y5']) rfl ⟨_, _, rfl, fin, hBf⟩

theorem impl_Opp (c : Ck) : ∀ base v bs w, BdC c → CkE base w v c bs → Calls Try.prog 13 #[v] w (PostV CkE (if okM c then oppC c else nilCk) (if okM c then 0 else 1) w) := by
  intro base v bs w hbd hck
  cases h : okM c with
  | true => exact impl_Opp_yes w hbd hck h
  | false => exact impl_Opp_no w hbd hck h
end Go.Proofs.Ytdehehdcjfaefab
