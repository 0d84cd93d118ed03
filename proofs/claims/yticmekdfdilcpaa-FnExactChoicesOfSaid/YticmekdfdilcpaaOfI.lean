/- ChoicesOf of the program. -/
import Derived.Test.YticmekdfdilcpaaOfM
import Derived.Test.YticmekdfdilcpaaMapped
import Derived.Test.YticmekdfdilcpaaProd
import Derived.Test.YticmekdfdilcpaaFree
import Derived.Test.YticmekdfdilcpaaGrown
import Derived.Test.YticmekdfdilcpaaVWalk
import Derived.Test.YticmekdfdilcpaaPost0
import Derived.Deep.AppendLies
import Derived.Shelf.Small.Strs
import Derived.StillTailTactics
namespace Go.Proofs.Yticmekdfdilcpaa
open Go.RowKit
set_option linter.unusedVariables false
theorem bools_flat (xs : List Bool) : (xs.flatMap fun x => [Value.bool x]) = xs.map fun x => Value.bool x := by
  induction xs with
  | nil => rfl
  | cons x xs ih => rw [List.flatMap_cons, ih]; rfl
theorem bools_news {base g n c : Nat} {w : World} {xs : List Bool} {bs : List Nat} (h : BoolsE base w (.slice (some ⟨g, 0, none⟩) n c) xs bs) : ∀ j u, (xs.flatMap fun x => [Value.bool x])[j]? = some u → w.cell? ((⟨g, 0, none⟩ : Addr).add j) = some u := by
  intro j u hu
  rw [bools_flat, List.getElem?_map] at hu
  cases hx : xs[j]? with
  | none => rw [hx] at hu; cases hu
  | some x =>
    rw [hx] at hu
    cases hu
    have e : (⟨g, 0, none⟩ : Addr).add j = ⟨g, j, none⟩ := by unfold Addr.add; split <;> simp_all
    rw [e]
    exact BoolsE.cell' h hx
set_option maxHeartbeats 1600000 in
set_option maxRecDepth 100000 in
theorem clone_bools {base : Nat} {v : Value} {xs : List Bool} {bs : List Nat} (w : World) (hn : Bd1 xs) (ha : BoolsE base w v xs bs) : Calls Try.prog 55 #[v] w (NewPost BoolsE xs w) := by
  obtain ⟨i0, hi, hz0, hz1, hz2⟩ := info_parts toInfo_bool
  obtain ⟨A, ca, rfl⟩ := RowE.slice ha
  unfold Bd1 at hn
  have hr : (w.alloc (.cells #[] 4)).ownsRow w.heap.size 4 1 (.slice (some ⟨w.heap.size, 0, none⟩) 0 0) 0 [] := row_lit (World.alloc_heap_new w _) (Nat.le_refl _) rfl (by unfold maxLen; omega)
  have hb0 : Below w.heap.size w (w.alloc (.cells #[] 4)) := (Below.refl _ _).alloc (Nat.le_refl _) _
  rcases A with _ | ad
  · have h0 : xs.length = 0 ∧ ca = 0 := by
      rcases ha.1.2 with ⟨hv, h1⟩ | ⟨g, cap, cur, hv, _⟩
      · simp only [Value.slice.injEq] at hv
        exact ⟨hv.2.1, hv.2.2⟩
      · simp only [Value.slice.injEq] at hv
        cases hv.1
    obtain ⟨h0, rfl⟩ := h0
    have hx : xs = [] := List.eq_nil_of_length_eq_zero h0
    subst hx
    have he := fun W : World => Lib.run_eql_slice_nil (P := Try.prog) W 23 4 none 0 0 0 0 Try.underlying23
    clear ha h0 hr
    go_enter Try.func55, Try.ntmps55
    go_wp2
    go_ret
    exact ⟨_, [], rfl, ⟨by simpa using World.ownsRow_nil _ _ _ _, rfl⟩, Below.refl _ _⟩
  · have hnews : ∀ j u, (xs.flatMap fun x => [Value.bool x])[j]? = some u → (w.alloc (.cells #[] 4)).cell? (ad.add j) = some u := by
      intro j u hu
      rcases Nat.eq_zero_or_pos xs.length with h | h
      · rw [List.eq_nil_of_length_eq_zero h] at hu
        simp at hu
      · obtain ⟨g, hg, hgl, _⟩ := RowE.head ha h
        obtain rfl : ad = ⟨g, 0, none⟩ := Option.some.inj hg
        exact (hb0.cell (by rw [add_block]; exact hgl)).trans (bools_news ha j u hu)
    have hone : ∀ u ∈ (xs.flatMap fun x => [Value.bool x]), u.oneCell' = true := by
      rw [bools_flat]
      intro u hu
      obtain ⟨x, _, rfl⟩ := List.mem_map.1 hu
      rfl
    have hlen : (xs.flatMap fun x => [Value.bool x]).length = xs.length * 1 := by rw [bools_flat, List.length_map, Nat.mul_one]
    have he := fun W : World => Lib.run_eql_slice_nil (P := Try.prog) W 23 4 (some ad) xs.length ca 0 0 Try.underlying23
    have Hn := Lib.hid hnews
    have Ho := Lib.hid hone
    have Hl := Lib.hid hlen
    have Hr := Lib.hid hr
    clear hnews hone hlen hr ha
    go_enter Try.func55, Try.ntmps55
    go_wp2_with (at_builtin; refine wpList_append_own _ rfl _ _ 23 rfl w.heap.size 4 i0 (.bool false) 1 1 Try.underlying23 hi hz0 hz1 hz2 rfl (by decide) _ 0 [] rfl Hr.out ad xs.length ca _ rfl Hl.out Hn.out Ho.out ?c1 ?c2 ?c3 ?_)
    case c1 => unfold maxLen; omega
    case c2 => omega
    case c3 => simp
    intro v' w' hown hgrow _
    have hb1 := hb0.grown hgrow (by simp) (fun k hk => by
      have : k = w.heap.size := by simpa [Value.ownBlock, eq_comm] using hk
      omega)
    go_wp2
    go_ret
    exact ⟨_, _, rfl, ⟨by simpa using hown, rfl⟩, hb1⟩
theorem entersO {P : Program} {f : FuncId} {fn : Func} {c : Code} (hf : P.funcs[f]? = some fn) (hname : (fn.name == "runtime.NumGoroutine") = false) (hb : fn.body = some c) (args : Array Value) (w : World) :
    (callFunc f args).run P w = .ok (.enter f args) w := by
  have h1 : fn.name ≠ "runtime.NumGoroutine" := by simpa using hname
  simp [callFunc, hf, h1, hb]
theorem alone_int (x : Int) (w : World) : Calls Try.prog 54 #[.int .i64 x] w (NewPost IntsE (one1 x) w) := by
  have hr := Bx.new w 2 #[.int .i64 x]
  go_enter Try.func54, Try.ntmps54
  go_wp2
  go_ret
  exact ⟨_, _, rfl, rowE_lit 1 hr (by simp) rfl rfl rfl (by unfold maxLen; omega), (Below.refl _ _).alloc (Nat.le_refl _) _⟩
theorem alone_int_cf (args : Array Value) (w : World) : (callFunc 54 args).run Try.prog w = .ok (.enter 54 args) w := entersO (fn := Try.f54) (by kernel_rfl) (by kernel_rfl) rfl args w
theorem alone_push (x : Int × Int) (w : World) : Calls Try.prog 102 #[.agg #[.int .i64 x.1, .int .i64 x.2]] w (NewPost PushE (one1 x) w) := by
  have hr := Bx.new (w.alloc (.cells #[.int .i64 x.1, .int .i64 x.2] 97)) 97 #[.int .i64 x.1, .int .i64 x.2]
  simp only [World.size_alloc] at hr
  go_enter Try.func102, Try.ntmps102
  go_wp2
  go_ret
  exact ⟨_, _, rfl, rowE_lit 1 hr (by simp) rfl rfl rfl (by unfold maxLen; omega), ((Below.refl _ _).alloc (Nat.le_refl _) _).alloc (by simp) _⟩
theorem alone_push_cf (args : Array Value) (w : World) : (callFunc 102 args).run Try.prog w = .ok (.enter 102 args) w := entersO (fn := Try.f102) (by kernel_rfl) (by kernel_rfl) rfl args w
set_option maxHeartbeats 1600000 in
theorem each_int {base : Nat} {u : Value} {x : List (Int)} {bs : List Nat} (w : World) (hn : x.length ≤ 1048576) (h : IntsE base w u x bs) : Calls Try.prog 61 #[u] w (NewPost Ints2E (ones x) w) := by
  have Q := Lib.hid (mapped_int_ints w one1 54 #[] alone_int_cf hn h (fun y _ W hW => alone_int y W))
  obtain ⟨A, k, rfl⟩ := RowE.slice h
  have hs : (x.map one1) = ones x := rfl
  rw [hs] at Q
  clear hs h
  generalize x.length = n at *
  generalize ones x = y at *
  go_enter Try.func61, Try.ntmps61
  go_wp2_with fail
  refine Q.out.mono ?_
  rintro e w1 ⟨v1, b1, rfl, E1, hb1⟩
  obtain ⟨A1, k1, rfl⟩ := ManyE.slice E1
  go_wp2
  go_ret
  exact ⟨_, _, rfl, E1, hb1⟩
theorem each_int_cf (args : Array Value) (w : World) : (callFunc 61 args).run Try.prog w = .ok (.enter 61 args) w := entersO (fn := Try.f61) (by kernel_rfl) (by kernel_rfl) rfl args w
set_option maxHeartbeats 1600000 in
theorem each_push {base : Nat} {u : Value} {x : List (Int × Int)} {bs : List Nat} (w : World) (hn : x.length ≤ 1048576) (h : PushE base w u x bs) : Calls Try.prog 57 #[u] w (NewPost Push2E (ones x) w) := by
  have Q := Lib.hid (mapped_push_pushes w one1 102 #[] alone_push_cf hn h (fun y _ W hW => alone_push y W))
  obtain ⟨A, k, rfl⟩ := RowE.slice h
  have hs : (x.map one1) = ones x := rfl
  rw [hs] at Q
  clear hs h
  generalize x.length = n at *
  generalize ones x = y at *
  go_enter Try.func57, Try.ntmps57
  go_wp2_with fail
  refine Q.out.mono ?_
  rintro e w1 ⟨v1, b1, rfl, E1, hb1⟩
  obtain ⟨A1, k1, rfl⟩ := ManyE.slice E1
  go_wp2
  go_ret
  exact ⟨_, _, rfl, E1, hb1⟩
theorem each_push_cf (args : Array Value) (w : World) : (callFunc 57 args).run Try.prog w = .ok (.enter 57 args) w := entersO (fn := Try.f57) (by kernel_rfl) (by kernel_rfl) rfl args w
set_option maxHeartbeats 1600000 in
theorem of_one {base : Nat} {u : Value} {x : List (List Int)} {bs : List Nat} (w : World) (hn : Bd2 x) (h : Ints2E base w u x bs) : Calls Try.prog 59 #[u] w (NewPost Ints3E (ones2 x) w) := by
  have Q := Lib.hid (mapped_ints_ints2 w ones 61 #[] each_int_cf hn.1 h (fun y hy W u' b' c' hW hE => by simpa using each_int W (hn.2 y hy) hE))
  obtain ⟨A, k, rfl⟩ := ManyE.slice h
  have hs : (x.map ones) = ones2 x := rfl
  rw [hs] at Q
  clear hs h hn
  generalize x.length = n at *
  generalize ones2 x = y at *
  go_enter Try.func59, Try.ntmps59
  go_wp2_with fail
  refine Q.out.mono ?_
  rintro e w1 ⟨v1, b1, rfl, E1, hb1⟩
  obtain ⟨A1, k1, rfl⟩ := ManyE.slice E1
  go_wp2
  go_ret
  exact ⟨_, _, rfl, E1, hb1⟩
theorem of_one_cf (args : Array Value) (w : World) : (callFunc 59 args).run Try.prog w = .ok (.enter 59 args) w := entersO (fn := Try.f59) (by kernel_rfl) (by kernel_rfl) rfl args w
theorem nilCh_e (base : Nat) (w : World) : ChE base w (.agg #[.int .i64 0, .slice none 0 0, .slice none 0 0, .slice none 0 0, .slice none 0 0, .slice none 0 0]) nilCh [] :=
  ⟨_, _, _, _, _, _, _, _, _, _, rfl, ⟨by simpa [nilCh] using World.ownsRow_nil w base 2 1, rfl⟩, ⟨by simpa [nilCh] using World.ownsRow_nil w base 4 1, rfl⟩, ManyE.nil _ _ _ _, ManyE.nil _ _ _ _, ManyE.nil _ _ _ _, by simp [Value.ownBlock], by simp⟩
theorem cnt_of {s0 s1 : Int} {A : Option Addr} {n ka : Nat} {vc vr vi : Value} (w : World) (hn : n ≤ 1048576) : Calls Try.prog 53 #[.agg #[.int .i64 s0, .int .i64 s1, .slice A n ka, vc, vr, vi]] w (TupPost (.int .i64 (n : Int)) w) := by
  have hB := (Below.refl w.heap.size w).alloc (Nat.le_refl _) (.cells #[.int .i64 s0, .int .i64 s1, .slice A n ka, vc, vr, vi] 46)
  go_enter Try.func53, Try.ntmps53
  go_wp2
  go_ret
  exact ⟨rfl, hB⟩
set_option maxHeartbeats 6400000 in
set_option maxRecDepth 100000 in
theorem impl_Of_no {base : Nat} {v : Value} {c : Ck} {bs : List Nat} (w : World) (hbc : BdC c) (hck : CkE base w v c bs) (hok : okM c = false) :
    Calls Try.prog 15 #[v] w (PostV ChE nilCh 1 w) := by
  obtain ⟨va, vc, vr, vi, _, _, _, _, rfl, h1, h2, h3, h4, hbs, hnd⟩ := id hck
  obtain ⟨A1, k1, rfl⟩ := RowE.slice h1
  obtain ⟨A2, k2, rfl⟩ := ManyE.slice h2
  obtain ⟨A3, k3, rfl⟩ := ManyE.slice h3
  obtain ⟨A4, k4, rfl⟩ := ManyE.slice h4
  have hB := ((Below.refl w.heap.size w).alloc (Nat.le_refl _) (.cells #[.int .i64 c.stack, .int .i64 c.start, .slice A1 c.accept.length k1, .slice A2 c.call.length k2, .slice A3 c.ret.length k3, .slice A4 c.inner.length k4] 46)).alloc (by simp) (.cells #[.int .i64 0, .slice none 0 0, .slice none 0 0, .slice none 0 0, .slice none 0 0, .slice none 0 0] 33)
  have t1 := (Bx.new w 46 #[.int .i64 c.stack, .int .i64 c.start, .slice A1 c.accept.length k1, .slice A2 c.call.length k2, .slice A3 c.ret.length k3, .slice A4 c.inner.length k4]).alloc (.cells #[.int .i64 0, .slice none 0 0, .slice none 0 0, .slice none 0 0, .slice none 0 0, .slice none 0 0] 33)
  have t3 := Bx.new (w.alloc (.cells #[.int .i64 c.stack, .int .i64 c.start, .slice A1 c.accept.length k1, .slice A2 c.call.length k2, .slice A3 c.ret.length k3, .slice A4 c.inner.length k4] 46)) 33 #[.int .i64 0, .slice none 0 0, .slice none 0 0, .slice none 0 0, .slice none 0 0, .slice none 0 0]
  simp only [World.size_alloc] at t3
  have hv := impl_ValidChecker _ hbc ((ck_ok _).later hck hB)
  rw [hok] at hv
  have l1 : c.accept.length ≤ 1048576 := hbc.accept
  have hlo : w.heap.size ≤ w.heap.size + 1 := by omega
  clear h1 h2 h3 h4 l1
  clear hbs hnd hck hbc hok
  generalize c.stack = s0 at *
  generalize c.start = s1 at *
  generalize c.accept.length = n at *
  generalize c.call.length = n2 at *
  generalize c.ret.length = n3 at *
  generalize c.inner.length = n4 at *
  have Hv := Lib.hid hv
  obtain ⟨W0, hW0⟩ : ∃ W0, W0 = (w.alloc (.cells #[.int .i64 s0, .int .i64 s1, .slice A1 n k1, .slice A2 n2 k2, .slice A3 n3 k3, .slice A4 n4 k4] 46)).alloc (.cells #[.int .i64 0, .slice none 0 0, .slice none 0 0, .slice none 0 0, .slice none 0 0, .slice none 0 0] 33) := ⟨_, rfl⟩
  have HW0 := Lib.hid hW0
  rw [← hW0] at hB t1 t3 Hv
  have HT := Lib.hid (And.intro t1 (And.intro t3 hB))
  obtain ⟨z0, z1, z2, z3, z4, z5, zl⟩ := id t1.all6
  clear hv t1 t3 hB hW0
  go_enter Try.func15, Try.ntmps15
  go_upto_region 1 with fail
  rw [← HW0.out]
  clear HW0
  go_wp2_with fail
  refine Hv.out.mono ?_
  rintro e w1 ⟨rfl, hb1⟩
  obtain ⟨t1, t3, hB⟩ := HT.out
  replace t1 := t1.later hb1
  replace t3 := t3.later hb1
  replace hB := hB.trans (hb1.mono hB.size)
  clear z0 z1 z2 z3 z4 z5 zl HT Hv hb1
  have q0 := t3.frozen 0
  have q1 := t3.frozen 1
  have q2 := t3.frozen 2
  have q3 := t3.frozen 3
  have q4 := t3.frozen 4
  have q5 := t3.frozen 5
  obtain ⟨c0, c1, c2, c3, c4, c5, cl⟩ := id t3.all6
  have HH := Lib.hid (And.intro t3 hB)
  clear t3 hB
  go_wp2
  clear c0 c1 c2 c3 c4 c5 cl q0 q1 q2 q3 q4 q5
  obtain ⟨t3, hB⟩ := HH.out
  have x0_ := t3.set 0 (.int .i64 0)
  have x1_ := x0_.set 1 (.slice none 0 0)
  have x2_ := x1_.set 2 (.slice none 0 0)
  have x3_ := x2_.set 3 (.slice none 0 0)
  have x4_ := x3_.set 4 (.slice none 0 0)
  have x5_ := x4_.set 5 (.slice none 0 0)
  have y0 := x5_.cell 0 (.int .i64 0) rfl
  have y1 := x5_.cell 1 (.slice none 0 0) rfl
  have y2 := x5_.cell 2 (.slice none 0 0) rfl
  have y3 := x5_.cell 3 (.slice none 0 0) rfl
  have y4 := x5_.cell 4 (.slice none 0 0) rfl
  have y5 := x5_.cell 5 (.slice none 0 0) rfl
  have hBf := ((((((hB.setCell (p := ⟨w.heap.size + 1, 0, none⟩) hlo (.int .i64 0)).setCell (p := ⟨w.heap.size + 1, 1, none⟩) hlo (.slice none 0 0)).setCell (p := ⟨w.heap.size + 1, 2, none⟩) hlo (.slice none 0 0)).setCell (p := ⟨w.heap.size + 1, 3, none⟩) hlo (.slice none 0 0)).setCell (p := ⟨w.heap.size + 1, 4, none⟩) hlo (.slice none 0 0)).setCell (p := ⟨w.heap.size + 1, 5, none⟩) hlo (.slice none 0 0))
  have FIN := nilCh_e w.heap.size ((((((w1.setCell ⟨w.heap.size + 1, 0, none⟩ (.int .i64 0)).setCell ⟨w.heap.size + 1, 1, none⟩ (.slice none 0 0)).setCell ⟨w.heap.size + 1, 2, none⟩ (.slice none 0 0)).setCell ⟨w.heap.size + 1, 3, none⟩ (.slice none 0 0)).setCell ⟨w.heap.size + 1, 4, none⟩ (.slice none 0 0)).setCell ⟨w.heap.size + 1, 5, none⟩ (.slice none 0 0))
  exact bodyPost_ret (v := .tuple #[.agg #[.int .i64 0, .slice none 0 0, .slice none 0 0, .slice none 0 0, .slice none 0 0, .slice none 0 0], .int .i64 1]) (by simp [results, Try.results15, go_sem, y0, y1, y2, y3, y4, y5]) rfl ⟨_, _, rfl, FIN, hBf⟩
set_option maxHeartbeats 6400000 in
set_option maxRecDepth 100000 in
theorem impl_Of_big1 {base : Nat} {v : Value} {c : Ck} {bs : List Nat} (w : World) (hbc : BdC c) (hck : CkE base w v c bs) (hok : okM c = true) (hbig : 5 < c.accept.length) :
    Calls Try.prog 15 #[v] w (PostV ChE nilCh 3 w) := by
  obtain ⟨va, vc, vr, vi, _, _, _, _, rfl, h1, h2, h3, h4, hbs, hnd⟩ := id hck
  obtain ⟨A1, k1, rfl⟩ := RowE.slice h1
  obtain ⟨A2, k2, rfl⟩ := ManyE.slice h2
  obtain ⟨A3, k3, rfl⟩ := ManyE.slice h3
  obtain ⟨A4, k4, rfl⟩ := ManyE.slice h4
  have hB := ((Below.refl w.heap.size w).alloc (Nat.le_refl _) (.cells #[.int .i64 c.stack, .int .i64 c.start, .slice A1 c.accept.length k1, .slice A2 c.call.length k2, .slice A3 c.ret.length k3, .slice A4 c.inner.length k4] 46)).alloc (by simp) (.cells #[.int .i64 0, .slice none 0 0, .slice none 0 0, .slice none 0 0, .slice none 0 0, .slice none 0 0] 33)
  have t1 := (Bx.new w 46 #[.int .i64 c.stack, .int .i64 c.start, .slice A1 c.accept.length k1, .slice A2 c.call.length k2, .slice A3 c.ret.length k3, .slice A4 c.inner.length k4]).alloc (.cells #[.int .i64 0, .slice none 0 0, .slice none 0 0, .slice none 0 0, .slice none 0 0, .slice none 0 0] 33)
  have t3 := Bx.new (w.alloc (.cells #[.int .i64 c.stack, .int .i64 c.start, .slice A1 c.accept.length k1, .slice A2 c.call.length k2, .slice A3 c.ret.length k3, .slice A4 c.inner.length k4] 46)) 33 #[.int .i64 0, .slice none 0 0, .slice none 0 0, .slice none 0 0, .slice none 0 0, .slice none 0 0]
  simp only [World.size_alloc] at t3
  have hv := impl_ValidChecker _ hbc ((ck_ok _).later hck hB)
  rw [hok] at hv
  have l1 : c.accept.length ≤ 1048576 := hbc.accept
  have hlo : w.heap.size ≤ w.heap.size + 1 := by omega
  clear h1 h2 h3 h4
  clear hbs hnd hck hbc hok
  generalize c.stack = s0 at *
  generalize c.start = s1 at *
  generalize c.accept.length = n at *
  generalize c.call.length = n2 at *
  generalize c.ret.length = n3 at *
  generalize c.inner.length = n4 at *
  have Hv := Lib.hid hv
  obtain ⟨W0, hW0⟩ : ∃ W0, W0 = (w.alloc (.cells #[.int .i64 s0, .int .i64 s1, .slice A1 n k1, .slice A2 n2 k2, .slice A3 n3 k3, .slice A4 n4 k4] 46)).alloc (.cells #[.int .i64 0, .slice none 0 0, .slice none 0 0, .slice none 0 0, .slice none 0 0, .slice none 0 0] 33) := ⟨_, rfl⟩
  have HW0 := Lib.hid hW0
  rw [← hW0] at hB t1 t3 Hv
  have HT := Lib.hid (And.intro t1 (And.intro t3 hB))
  obtain ⟨z0, z1, z2, z3, z4, z5, zl⟩ := id t1.all6
  clear hv t1 t3 hB hW0
  go_enter Try.func15, Try.ntmps15
  go_upto_region 1 with fail
  rw [← HW0.out]
  clear HW0
  go_wp2_with fail
  refine Hv.out.mono ?_
  rintro e w1 ⟨rfl, hb1⟩
  obtain ⟨t1, t3, hB⟩ := HT.out
  replace t1 := t1.later hb1
  replace t3 := t3.later hb1
  replace hB := hB.trans (hb1.mono hB.size)
  clear z0 z1 z2 z3 z4 z5 zl HT Hv hb1
  have hb5 : (5 : Int) < n := by omega
  have QC := Lib.hid (cnt_of (s0 := s0) (s1 := s1) (A := A1) (ka := k1) (vc := .slice A2 n2 k2) (vr := .slice A3 n3 k3) (vi := .slice A4 n4 k4) w1 l1)
  obtain ⟨z0, z1, z2, z3, z4, z5, zl⟩ := id t1.all6
  have H1 := Lib.hid (And.intro t1 (And.intro t3 hB))
  clear t1 t3 hB
  go_wp2_with fail
  refine QC.out.mono ?_
  rintro e w2 ⟨rfl, hb2⟩
  obtain ⟨t1, t3, hB⟩ := H1.out
  replace t1 := t1.later hb2
  replace t3 := t3.later hb2
  replace hB := hB.trans (hb2.mono hB.size)
  clear z0 z1 z2 z3 z4 z5 zl H1 QC hb2
  obtain ⟨z0, z1, z2, z3, z4, z5, zl⟩ := id t1.all6
  have q0 := t3.frozen 0
  have q1 := t3.frozen 1
  have q2 := t3.frozen 2
  have q3 := t3.frozen 3
  have q4 := t3.frozen 4
  have q5 := t3.frozen 5
  obtain ⟨c0, c1, c2, c3, c4, c5, cl⟩ := id t3.all6
  have HH := Lib.hid (And.intro t3 hB)
  clear t3 hB
  go_wp2
  clear c0 c1 c2 c3 c4 c5 cl q0 q1 q2 q3 q4 q5
  obtain ⟨t3, hB⟩ := HH.out
  have x0_ := t3.set 0 (.int .i64 0)
  have x1_ := x0_.set 1 (.slice none 0 0)
  have x2_ := x1_.set 2 (.slice none 0 0)
  have x3_ := x2_.set 3 (.slice none 0 0)
  have x4_ := x3_.set 4 (.slice none 0 0)
  have x5_ := x4_.set 5 (.slice none 0 0)
  have y0 := x5_.cell 0 (.int .i64 0) rfl
  have y1 := x5_.cell 1 (.slice none 0 0) rfl
  have y2 := x5_.cell 2 (.slice none 0 0) rfl
  have y3 := x5_.cell 3 (.slice none 0 0) rfl
  have y4 := x5_.cell 4 (.slice none 0 0) rfl
  have y5 := x5_.cell 5 (.slice none 0 0) rfl
  have hBf := ((((((hB.setCell (p := ⟨w.heap.size + 1, 0, none⟩) hlo (.int .i64 0)).setCell (p := ⟨w.heap.size + 1, 1, none⟩) hlo (.slice none 0 0)).setCell (p := ⟨w.heap.size + 1, 2, none⟩) hlo (.slice none 0 0)).setCell (p := ⟨w.heap.size + 1, 3, none⟩) hlo (.slice none 0 0)).setCell (p := ⟨w.heap.size + 1, 4, none⟩) hlo (.slice none 0 0)).setCell (p := ⟨w.heap.size + 1, 5, none⟩) hlo (.slice none 0 0))
  have FIN := nilCh_e w.heap.size ((((((w2.setCell ⟨w.heap.size + 1, 0, none⟩ (.int .i64 0)).setCell ⟨w.heap.size + 1, 1, none⟩ (.slice none 0 0)).setCell ⟨w.heap.size + 1, 2, none⟩ (.slice none 0 0)).setCell ⟨w.heap.size + 1, 3, none⟩ (.slice none 0 0)).setCell ⟨w.heap.size + 1, 4, none⟩ (.slice none 0 0)).setCell ⟨w.heap.size + 1, 5, none⟩ (.slice none 0 0))
  exact bodyPost_ret (v := .tuple #[.agg #[.int .i64 0, .slice none 0 0, .slice none 0 0, .slice none 0 0, .slice none 0 0, .slice none 0 0], .int .i64 3]) (by simp [results, Try.results15, go_sem, y0, y1, y2, y3, y4, y5]) rfl ⟨_, _, rfl, FIN, hBf⟩
set_option maxHeartbeats 6400000 in
set_option maxRecDepth 100000 in
theorem impl_Of_big2 {base : Nat} {v : Value} {c : Ck} {bs : List Nat} (w : World) (hbc : BdC c) (hck : CkE base w v c bs) (hok : okM c = true) (hsm : c.accept.length ≤ 5) (hbig : 4 < c.stack) :
    Calls Try.prog 15 #[v] w (PostV ChE nilCh 3 w) := by
  obtain ⟨va, vc, vr, vi, _, _, _, _, rfl, h1, h2, h3, h4, hbs, hnd⟩ := id hck
  obtain ⟨A1, k1, rfl⟩ := RowE.slice h1
  obtain ⟨A2, k2, rfl⟩ := ManyE.slice h2
  obtain ⟨A3, k3, rfl⟩ := ManyE.slice h3
  obtain ⟨A4, k4, rfl⟩ := ManyE.slice h4
  have hB := ((Below.refl w.heap.size w).alloc (Nat.le_refl _) (.cells #[.int .i64 c.stack, .int .i64 c.start, .slice A1 c.accept.length k1, .slice A2 c.call.length k2, .slice A3 c.ret.length k3, .slice A4 c.inner.length k4] 46)).alloc (by simp) (.cells #[.int .i64 0, .slice none 0 0, .slice none 0 0, .slice none 0 0, .slice none 0 0, .slice none 0 0] 33)
  have t1 := (Bx.new w 46 #[.int .i64 c.stack, .int .i64 c.start, .slice A1 c.accept.length k1, .slice A2 c.call.length k2, .slice A3 c.ret.length k3, .slice A4 c.inner.length k4]).alloc (.cells #[.int .i64 0, .slice none 0 0, .slice none 0 0, .slice none 0 0, .slice none 0 0, .slice none 0 0] 33)
  have t3 := Bx.new (w.alloc (.cells #[.int .i64 c.stack, .int .i64 c.start, .slice A1 c.accept.length k1, .slice A2 c.call.length k2, .slice A3 c.ret.length k3, .slice A4 c.inner.length k4] 46)) 33 #[.int .i64 0, .slice none 0 0, .slice none 0 0, .slice none 0 0, .slice none 0 0, .slice none 0 0]
  simp only [World.size_alloc] at t3
  have hv := impl_ValidChecker _ hbc ((ck_ok _).later hck hB)
  rw [hok] at hv
  have l1 : c.accept.length ≤ 1048576 := hbc.accept
  have hlo : w.heap.size ≤ w.heap.size + 1 := by omega
  clear h1 h2 h3 h4
  clear hbs hnd hck hbc hok
  generalize c.stack = s0 at *
  generalize c.start = s1 at *
  generalize c.accept.length = n at *
  generalize c.call.length = n2 at *
  generalize c.ret.length = n3 at *
  generalize c.inner.length = n4 at *
  have Hv := Lib.hid hv
  obtain ⟨W0, hW0⟩ : ∃ W0, W0 = (w.alloc (.cells #[.int .i64 s0, .int .i64 s1, .slice A1 n k1, .slice A2 n2 k2, .slice A3 n3 k3, .slice A4 n4 k4] 46)).alloc (.cells #[.int .i64 0, .slice none 0 0, .slice none 0 0, .slice none 0 0, .slice none 0 0, .slice none 0 0] 33) := ⟨_, rfl⟩
  have HW0 := Lib.hid hW0
  rw [← hW0] at hB t1 t3 Hv
  have HT := Lib.hid (And.intro t1 (And.intro t3 hB))
  obtain ⟨z0, z1, z2, z3, z4, z5, zl⟩ := id t1.all6
  clear hv t1 t3 hB hW0
  go_enter Try.func15, Try.ntmps15
  go_upto_region 1 with fail
  rw [← HW0.out]
  clear HW0
  go_wp2_with fail
  refine Hv.out.mono ?_
  rintro e w1 ⟨rfl, hb1⟩
  obtain ⟨t1, t3, hB⟩ := HT.out
  replace t1 := t1.later hb1
  replace t3 := t3.later hb1
  replace hB := hB.trans (hb1.mono hB.size)
  clear z0 z1 z2 z3 z4 z5 zl HT Hv hb1
  have hb5 : ¬ (5 : Int) < n := by omega
  have hb6 : ¬ 5 < n := by omega
  have hb7 : (4 : Int) < s0 := hbig
  have QC := Lib.hid (cnt_of (s0 := s0) (s1 := s1) (A := A1) (ka := k1) (vc := .slice A2 n2 k2) (vr := .slice A3 n3 k3) (vi := .slice A4 n4 k4) w1 l1)
  obtain ⟨z0, z1, z2, z3, z4, z5, zl⟩ := id t1.all6
  have H1 := Lib.hid (And.intro t1 (And.intro t3 hB))
  clear t1 t3 hB
  go_wp2_with fail
  refine QC.out.mono ?_
  rintro e w2 ⟨rfl, hb2⟩
  obtain ⟨t1, t3, hB⟩ := H1.out
  replace t1 := t1.later hb2
  replace t3 := t3.later hb2
  replace hB := hB.trans (hb2.mono hB.size)
  clear z0 z1 z2 z3 z4 z5 zl H1 QC hb2
  obtain ⟨z0, z1, z2, z3, z4, z5, zl⟩ := id t1.all6
  have q0 := t3.frozen 0
  have q1 := t3.frozen 1
  have q2 := t3.frozen 2
  have q3 := t3.frozen 3
  have q4 := t3.frozen 4
  have q5 := t3.frozen 5
  obtain ⟨c0, c1, c2, c3, c4, c5, cl⟩ := id t3.all6
  have HH := Lib.hid (And.intro t3 hB)
  clear t3 hB
  go_wp2
  clear c0 c1 c2 c3 c4 c5 cl q0 q1 q2 q3 q4 q5
  obtain ⟨t3, hB⟩ := HH.out
  have x0_ := t3.set 0 (.int .i64 0)
  have x1_ := x0_.set 1 (.slice none 0 0)
  have x2_ := x1_.set 2 (.slice none 0 0)
  have x3_ := x2_.set 3 (.slice none 0 0)
  have x4_ := x3_.set 4 (.slice none 0 0)
  have x5_ := x4_.set 5 (.slice none 0 0)
  have y0 := x5_.cell 0 (.int .i64 0) rfl
  have y1 := x5_.cell 1 (.slice none 0 0) rfl
  have y2 := x5_.cell 2 (.slice none 0 0) rfl
  have y3 := x5_.cell 3 (.slice none 0 0) rfl
  have y4 := x5_.cell 4 (.slice none 0 0) rfl
  have y5 := x5_.cell 5 (.slice none 0 0) rfl
  have hBf := ((((((hB.setCell (p := ⟨w.heap.size + 1, 0, none⟩) hlo (.int .i64 0)).setCell (p := ⟨w.heap.size + 1, 1, none⟩) hlo (.slice none 0 0)).setCell (p := ⟨w.heap.size + 1, 2, none⟩) hlo (.slice none 0 0)).setCell (p := ⟨w.heap.size + 1, 3, none⟩) hlo (.slice none 0 0)).setCell (p := ⟨w.heap.size + 1, 4, none⟩) hlo (.slice none 0 0)).setCell (p := ⟨w.heap.size + 1, 5, none⟩) hlo (.slice none 0 0))
  have FIN := nilCh_e w.heap.size ((((((w2.setCell ⟨w.heap.size + 1, 0, none⟩ (.int .i64 0)).setCell ⟨w.heap.size + 1, 1, none⟩ (.slice none 0 0)).setCell ⟨w.heap.size + 1, 2, none⟩ (.slice none 0 0)).setCell ⟨w.heap.size + 1, 3, none⟩ (.slice none 0 0)).setCell ⟨w.heap.size + 1, 4, none⟩ (.slice none 0 0)).setCell ⟨w.heap.size + 1, 5, none⟩ (.slice none 0 0))
  exact bodyPost_ret (v := .tuple #[.agg #[.int .i64 0, .slice none 0 0, .slice none 0 0, .slice none 0 0, .slice none 0 0, .slice none 0 0], .int .i64 3]) (by simp [results, Try.results15, go_sem, y0, y1, y2, y3, y4, y5]) rfl ⟨_, _, rfl, FIN, hBf⟩
set_option maxHeartbeats 6400000 in
set_option maxRecDepth 100000 in
theorem impl_Of_yes {base : Nat} {v : Value} {c : Ck} {bs : List Nat} (w : World) (hbc : BdC c) (hck : CkE base w v c bs) (hok : okM c = true) (hsm : c.accept.length ≤ 5) (hst : c.stack ≤ 4) :
    Calls Try.prog 15 #[v] w (PostV ChE (chOf c) 0 w) := by
  obtain ⟨va, vc, vr, vi, _, _, _, _, rfl, h1, h2, h3, h4, hbs, hnd⟩ := id hck
  obtain ⟨A1, k1, rfl⟩ := RowE.slice h1
  obtain ⟨A2, k2, rfl⟩ := ManyE.slice h2
  obtain ⟨A3, k3, rfl⟩ := ManyE.slice h3
  obtain ⟨A4, k4, rfl⟩ := ManyE.slice h4
  have hB := ((Below.refl w.heap.size w).alloc (Nat.le_refl _) (.cells #[.int .i64 c.stack, .int .i64 c.start, .slice A1 c.accept.length k1, .slice A2 c.call.length k2, .slice A3 c.ret.length k3, .slice A4 c.inner.length k4] 46)).alloc (by simp) (.cells #[.int .i64 0, .slice none 0 0, .slice none 0 0, .slice none 0 0, .slice none 0 0, .slice none 0 0] 33)
  have t1 := (Bx.new w 46 #[.int .i64 c.stack, .int .i64 c.start, .slice A1 c.accept.length k1, .slice A2 c.call.length k2, .slice A3 c.ret.length k3, .slice A4 c.inner.length k4]).alloc (.cells #[.int .i64 0, .slice none 0 0, .slice none 0 0, .slice none 0 0, .slice none 0 0, .slice none 0 0] 33)
  have t3 := Bx.new (w.alloc (.cells #[.int .i64 c.stack, .int .i64 c.start, .slice A1 c.accept.length k1, .slice A2 c.call.length k2, .slice A3 c.ret.length k3, .slice A4 c.inner.length k4] 46)) 33 #[.int .i64 0, .slice none 0 0, .slice none 0 0, .slice none 0 0, .slice none 0 0, .slice none 0 0]
  simp only [World.size_alloc] at t3
  have hv := impl_ValidChecker _ hbc ((ck_ok _).later hck hB)
  rw [hok] at hv
  have l1 : c.accept.length ≤ 1048576 := hbc.accept
  have hlo : w.heap.size ≤ w.heap.size + 1 := by omega
  have m2 : c.call.length ≤ 1048576 := hbc.call.1
  have m3 : c.ret.length ≤ 1048576 := hbc.ret.1
  have m4 : c.inner.length ≤ 1048576 := hbc.inner.1
  have R4 := Lib.hid (fun W => alone_int c.start W)
  have R7 := Lib.hid (fun (W : World) (hW : Below w.heap.size w W) => clone_bools W hbc.accept ((bools_ok _).later h1 hW))
  have R10 := Lib.hid (fun (W : World) (hW : Below w.heap.size w W) => mapped_pushes_pushes2 W ones 57 #[] each_push_cf m2 ((push2_ok _).later h2 hW) (fun y hy W' u' b' c' hW' hE => by simpa using each_push W' (hbc.call.2 y hy) hE))
  have R13 := Lib.hid (fun (W : World) (hW : Below w.heap.size w W) => mapped_ints2_ints3 W ones2 59 #[] of_one_cf m3 ((ints3_ok _).later h3 hW) (fun y hy W' u' b' c' hW' hE => by simpa using of_one W' (hbc.ret.2 y hy) hE))
  have R16 := Lib.hid (fun (W : World) (hW : Below w.heap.size w W) => mapped_ints_ints2 W ones 61 #[] each_int_cf m4 ((ints2_ok _).later h4 hW) (fun y hy W' u' b' c' hW' hE => by simpa using each_int W' (hbc.inner.2 y hy) hE))
  have hres : chOf c = { stack := c.stack, starts := one1 c.start, accept := c.accept, call := c.call.map ones, ret := c.ret.map ones2, inner := c.inner.map ones } := rfl
  rw [hres]
  generalize c.call.map ones = P2 at *
  generalize c.ret.map ones2 = P3 at *
  generalize c.inner.map ones = P4 at *
  clear h1 h2 h3 h4 hres m2 m3 m4
  clear hbs hnd hck hbc hok
  generalize c.stack = s0 at *
  generalize c.start = s1 at *
  generalize c.accept.length = n at *
  generalize c.call.length = n2 at *
  generalize c.ret.length = n3 at *
  generalize c.inner.length = n4 at *
  generalize c.accept = P1 at *
  have Hv := Lib.hid hv
  obtain ⟨W0, hW0⟩ : ∃ W0, W0 = (w.alloc (.cells #[.int .i64 s0, .int .i64 s1, .slice A1 n k1, .slice A2 n2 k2, .slice A3 n3 k3, .slice A4 n4 k4] 46)).alloc (.cells #[.int .i64 0, .slice none 0 0, .slice none 0 0, .slice none 0 0, .slice none 0 0, .slice none 0 0] 33) := ⟨_, rfl⟩
  have HW0 := Lib.hid hW0
  rw [← hW0] at hB t1 t3 Hv
  have HT := Lib.hid (And.intro t1 (And.intro t3 hB))
  obtain ⟨z0, z1, z2, z3, z4, z5, zl⟩ := id t1.all6
  clear hv t1 t3 hB hW0
  go_enter Try.func15, Try.ntmps15
  go_upto_region 1 with fail
  rw [← HW0.out]
  clear HW0
  go_wp2_with fail
  refine Hv.out.mono ?_
  rintro e w1 ⟨rfl, hb1⟩
  obtain ⟨t1, t3, hB⟩ := HT.out
  replace t1 := t1.later hb1
  replace t3 := t3.later hb1
  replace hB := hB.trans (hb1.mono hB.size)
  clear z0 z1 z2 z3 z4 z5 zl HT Hv hb1
  have hb5 : ¬ (5 : Int) < n := by omega
  have hb6 : ¬ 5 < n := by omega
  have hb7 : ¬ (4 : Int) < s0 := by omega
  have QC := Lib.hid (cnt_of (s0 := s0) (s1 := s1) (A := A1) (ka := k1) (vc := .slice A2 n2 k2) (vr := .slice A3 n3 k3) (vi := .slice A4 n4 k4) w1 l1)
  obtain ⟨z0, z1, z2, z3, z4, z5, zl⟩ := id t1.all6
  have H1 := Lib.hid (And.intro t1 (And.intro t3 hB))
  clear t1 t3 hB
  go_wp2_with fail
  refine QC.out.mono ?_
  rintro e w2 ⟨rfl, hb2⟩
  obtain ⟨t1, t3, hB⟩ := H1.out
  replace t1 := t1.later hb2
  replace t3 := t3.later hb2
  replace hB := hB.trans (hb2.mono hB.size)
  clear z0 z1 z2 z3 z4 z5 zl H1 QC hb2
  obtain ⟨z0, z1, z2, z3, z4, z5, zl⟩ := id t1.all6
  go_wp2_with fail
  have HX := Lib.hid hB
  have hsz1 := t3.lt
  clear z0 z1 z2 z3 z4 z5 zl hB hb5 hb6 hb7
  go_upto_region 5 with fail
  refine wp_region_free_seq (by kernel_rfl) [
      .val [] (fun _ => .pointer (some ⟨w.heap.size, 0, none⟩)),
      .val [] (fun _ => .int .i64 s0),
      .val [] (fun _ => .pointer (some ⟨w.heap.size, 1, none⟩)),
      .val [] (fun _ => .int .i64 s1),
      .own (IntsE w2.heap.size) (one1 s1),
      .val [] (fun _ => .pointer (some ⟨w.heap.size, 2, none⟩)),
      .val [] (fun _ => .slice A1 n k1),
      .own (BoolsE w2.heap.size) P1,
      .val [] (fun _ => .pointer (some ⟨w.heap.size, 3, none⟩)),
      .val [] (fun _ => .slice A2 n2 k2),
      .own (Push3E w2.heap.size) P2,
      .val [] (fun _ => .pointer (some ⟨w.heap.size, 4, none⟩)),
      .val [] (fun _ => .slice A3 n3 k3),
      .own (Ints4E w2.heap.size) P3,
      .val [] (fun _ => .pointer (some ⟨w.heap.size, 5, none⟩)),
      .val [] (fun _ => .slice A4 n4 k4),
      .own (Ints3E w2.heap.size) P4,
      .val [4, 7, 10, 13, 16] (fun u => .agg #[.int .i64 s0, u 4, u 7, u 10, u 13, u 16])] 18 ?hp ?hfw ?deps ?oks ?hforced ?hf ?steps ?tailR
  case hforced => kernel_rfl
  case hf => kernel_rfl
  case hp => kernel_rfl
  case hfw => kernel_rfl
  case deps => kernel_rfl
  case oks =>
    intro F hF
    simp only [List.mem_cons, List.not_mem_nil, or_false] at hF
    rcases hF with rfl | rfl | rfl | rfl | rfl | rfl | rfl | rfl | rfl | rfl | rfl | rfl | rfl | rfl | rfl | rfl | rfl | rfl
    · trivial
    · trivial
    · trivial
    · trivial
    · exact ⟨_, ints_ok _⟩
    · trivial
    · trivial
    · exact ⟨_, bools_ok _⟩
    · trivial
    · trivial
    · exact ⟨_, push3_ok _⟩
    · trivial
    · trivial
    · exact ⟨_, ints4_ok _⟩
    · trivial
    · trivial
    · exact ⟨_, ints3_ok _⟩
    · trivial
  case steps =>
    refine Steps.cons ?_ ?_
    · intro _; refine FreeStep.val [] _ rfl rfl fun u β W hW hn fr hfr K hK => ?_
      simp only [frameL, putL, Act.put, List.setIfInBounds_toArray, List.set_cons_zero, List.set_cons_succ, Nat.zero_add, Nat.reduceAdd] at hfr
      subst hfr
      have HK := Lib.hid hK
      clear hK hn
      go_simp
      have h9 := HK.out
      revert h9
      clear HK
      go_simp
      try exact id
    refine Steps.cons ?_ ?_
    · intro _; refine FreeStep.val [] _ rfl rfl fun u β W hW hn fr hfr K hK => ?_
      simp only [frameL, putL, Act.put, List.setIfInBounds_toArray, List.set_cons_zero, List.set_cons_succ, Nat.zero_add, Nat.reduceAdd] at hfr
      subst hfr
      have e0 : u 0 = .pointer (some ⟨w.heap.size, 0, none⟩) := Have.get (k := 0) hn rfl
      simp only [e0] at hK
      have c0 := cellL (t1.cell 0 _ rfl) hW
      have HK := Lib.hid hK
      clear hK hn
      go_simp
      have h9 := HK.out
      revert h9
      clear HK
      go_simp
      try exact id
    refine Steps.cons ?_ ?_
    · intro _; refine FreeStep.val [] _ rfl rfl fun u β W hW hn fr hfr K hK => ?_
      simp only [frameL, putL, Act.put, List.setIfInBounds_toArray, List.set_cons_zero, List.set_cons_succ, Nat.zero_add, Nat.reduceAdd] at hfr
      subst hfr
      have HK := Lib.hid hK
      clear hK hn
      go_simp
      have h9 := HK.out
      revert h9
      clear HK
      go_simp
      try exact id
    refine Steps.cons ?_ ?_
    · intro _; refine FreeStep.val [] _ rfl rfl fun u β W hW hn fr hfr K hK => ?_
      simp only [frameL, putL, Act.put, List.setIfInBounds_toArray, List.set_cons_zero, List.set_cons_succ, Nat.zero_add, Nat.reduceAdd] at hfr
      subst hfr
      have e2 : u 2 = .pointer (some ⟨w.heap.size, 1, none⟩) := Have.get (k := 2) hn rfl
      simp only [e2] at hK
      have c0 := cellL (t1.cell 1 _ rfl) hW
      have HK := Lib.hid hK
      clear hK hn
      go_simp
      have h9 := HK.out
      revert h9
      clear HK
      go_simp
      try exact id
    refine Steps.cons ?_ ?_
    · intro _; refine FreeStep.own (base := w2.heap.size) rfl (ints_ok _) fun u β W hW hn fr hfr K hK => ?_
      simp only [frameL, putL, Act.put, List.setIfInBounds_toArray, List.set_cons_zero, List.set_cons_succ, Nat.zero_add, Nat.reduceAdd] at hfr
      subst hfr
      have e3 : u 3 = .int .i64 s1 := Have.get (k := 3) hn rfl
      simp only [e3] at hK
      have hsz := hW.size
      have Q := Lib.hid (R4.out W)
      have HK := Lib.hid hK
      clear hK hn
      go_simp
      refine Q.out.mono ?_
      rintro e w9 ⟨v9, cs9, rfl, h9, hb9⟩
      exact HK.out v9 cs9 w9 hb9 (ints_base hsz _ _ _ _ h9) (fun b hb => ((ints_ok _).lt h9 b hb).1)
    refine Steps.cons ?_ ?_
    · intro _; refine FreeStep.val [] _ rfl rfl fun u β W hW hn fr hfr K hK => ?_
      simp only [frameL, putL, Act.put, List.setIfInBounds_toArray, List.set_cons_zero, List.set_cons_succ, Nat.zero_add, Nat.reduceAdd] at hfr
      subst hfr
      have HK := Lib.hid hK
      clear hK hn
      go_simp
      have h9 := HK.out
      revert h9
      clear HK
      go_simp
      try exact id
    refine Steps.cons ?_ ?_
    · intro _; refine FreeStep.val [] _ rfl rfl fun u β W hW hn fr hfr K hK => ?_
      simp only [frameL, putL, Act.put, List.setIfInBounds_toArray, List.set_cons_zero, List.set_cons_succ, Nat.zero_add, Nat.reduceAdd] at hfr
      subst hfr
      have e5 : u 5 = .pointer (some ⟨w.heap.size, 2, none⟩) := Have.get (k := 5) hn rfl
      simp only [e5] at hK
      have c0 := cellL (t1.cell 2 _ rfl) hW
      have HK := Lib.hid hK
      clear hK hn
      go_simp
      have h9 := HK.out
      revert h9
      clear HK
      go_simp
      try exact id
    refine Steps.cons ?_ ?_
    · intro _; refine FreeStep.own (base := w2.heap.size) rfl (bools_ok _) fun u β W hW hn fr hfr K hK => ?_
      simp only [frameL, putL, Act.put, List.setIfInBounds_toArray, List.set_cons_zero, List.set_cons_succ, Nat.zero_add, Nat.reduceAdd] at hfr
      subst hfr
      have e6 : u 6 = .slice A1 n k1 := Have.get (k := 6) hn rfl
      simp only [e6] at hK
      have hsz := hW.size
      have Q := Lib.hid (R7.out W (HX.out.trans (hW.mono HX.out.size)))
      have HK := Lib.hid hK
      clear hK hn
      go_simp
      refine Q.out.mono ?_
      rintro e w9 ⟨v9, cs9, rfl, h9, hb9⟩
      exact HK.out v9 cs9 w9 hb9 (bools_base hsz _ _ _ _ h9) (fun b hb => ((bools_ok _).lt h9 b hb).1)
    refine Steps.cons ?_ ?_
    · intro _; refine FreeStep.val [] _ rfl rfl fun u β W hW hn fr hfr K hK => ?_
      simp only [frameL, putL, Act.put, List.setIfInBounds_toArray, List.set_cons_zero, List.set_cons_succ, Nat.zero_add, Nat.reduceAdd] at hfr
      subst hfr
      have HK := Lib.hid hK
      clear hK hn
      go_simp
      have h9 := HK.out
      revert h9
      clear HK
      go_simp
      try exact id
    refine Steps.cons ?_ ?_
    · intro _; refine FreeStep.val [] _ rfl rfl fun u β W hW hn fr hfr K hK => ?_
      simp only [frameL, putL, Act.put, List.setIfInBounds_toArray, List.set_cons_zero, List.set_cons_succ, Nat.zero_add, Nat.reduceAdd] at hfr
      subst hfr
      have e8 : u 8 = .pointer (some ⟨w.heap.size, 3, none⟩) := Have.get (k := 8) hn rfl
      simp only [e8] at hK
      have c0 := cellL (t1.cell 3 _ rfl) hW
      have HK := Lib.hid hK
      clear hK hn
      go_simp
      have h9 := HK.out
      revert h9
      clear HK
      go_simp
      try exact id
    refine Steps.cons ?_ ?_
    · intro _; refine FreeStep.own (base := w2.heap.size) rfl (push3_ok _) fun u β W hW hn fr hfr K hK => ?_
      simp only [frameL, putL, Act.put, List.setIfInBounds_toArray, List.set_cons_zero, List.set_cons_succ, Nat.zero_add, Nat.reduceAdd] at hfr
      subst hfr
      have e9 : u 9 = .slice A2 n2 k2 := Have.get (k := 9) hn rfl
      simp only [e9] at hK
      have hsz := hW.size
      have Q := Lib.hid (R10.out W (HX.out.trans (hW.mono HX.out.size)))
      have HK := Lib.hid hK
      clear hK hn
      go_simp
      refine Q.out.mono ?_
      rintro e w9 ⟨v9, cs9, rfl, h9, hb9⟩
      exact HK.out v9 cs9 w9 hb9 (pushes3_base hsz _ _ _ _ h9) (fun b hb => ((push3_ok _).lt h9 b hb).1)
    refine Steps.cons ?_ ?_
    · intro _; refine FreeStep.val [] _ rfl rfl fun u β W hW hn fr hfr K hK => ?_
      simp only [frameL, putL, Act.put, List.setIfInBounds_toArray, List.set_cons_zero, List.set_cons_succ, Nat.zero_add, Nat.reduceAdd] at hfr
      subst hfr
      have HK := Lib.hid hK
      clear hK hn
      go_simp
      have h9 := HK.out
      revert h9
      clear HK
      go_simp
      try exact id
    refine Steps.cons ?_ ?_
    · intro _; refine FreeStep.val [] _ rfl rfl fun u β W hW hn fr hfr K hK => ?_
      simp only [frameL, putL, Act.put, List.setIfInBounds_toArray, List.set_cons_zero, List.set_cons_succ, Nat.zero_add, Nat.reduceAdd] at hfr
      subst hfr
      have e11 : u 11 = .pointer (some ⟨w.heap.size, 4, none⟩) := Have.get (k := 11) hn rfl
      simp only [e11] at hK
      have c0 := cellL (t1.cell 4 _ rfl) hW
      have HK := Lib.hid hK
      clear hK hn
      go_simp
      have h9 := HK.out
      revert h9
      clear HK
      go_simp
      try exact id
    refine Steps.cons ?_ ?_
    · intro _; refine FreeStep.own (base := w2.heap.size) rfl (ints4_ok _) fun u β W hW hn fr hfr K hK => ?_
      simp only [frameL, putL, Act.put, List.setIfInBounds_toArray, List.set_cons_zero, List.set_cons_succ, Nat.zero_add, Nat.reduceAdd] at hfr
      subst hfr
      have e12 : u 12 = .slice A3 n3 k3 := Have.get (k := 12) hn rfl
      simp only [e12] at hK
      have hsz := hW.size
      have Q := Lib.hid (R13.out W (HX.out.trans (hW.mono HX.out.size)))
      have HK := Lib.hid hK
      clear hK hn
      go_simp
      refine Q.out.mono ?_
      rintro e w9 ⟨v9, cs9, rfl, h9, hb9⟩
      exact HK.out v9 cs9 w9 hb9 (ints4_base hsz _ _ _ _ h9) (fun b hb => ((ints4_ok _).lt h9 b hb).1)
    refine Steps.cons ?_ ?_
    · intro _; refine FreeStep.val [] _ rfl rfl fun u β W hW hn fr hfr K hK => ?_
      simp only [frameL, putL, Act.put, List.setIfInBounds_toArray, List.set_cons_zero, List.set_cons_succ, Nat.zero_add, Nat.reduceAdd] at hfr
      subst hfr
      have HK := Lib.hid hK
      clear hK hn
      go_simp
      have h9 := HK.out
      revert h9
      clear HK
      go_simp
      try exact id
    refine Steps.cons ?_ ?_
    · intro _; refine FreeStep.val [] _ rfl rfl fun u β W hW hn fr hfr K hK => ?_
      simp only [frameL, putL, Act.put, List.setIfInBounds_toArray, List.set_cons_zero, List.set_cons_succ, Nat.zero_add, Nat.reduceAdd] at hfr
      subst hfr
      have e14 : u 14 = .pointer (some ⟨w.heap.size, 5, none⟩) := Have.get (k := 14) hn rfl
      simp only [e14] at hK
      have c0 := cellL (t1.cell 5 _ rfl) hW
      have HK := Lib.hid hK
      clear hK hn
      go_simp
      have h9 := HK.out
      revert h9
      clear HK
      go_simp
      try exact id
    refine Steps.cons ?_ ?_
    · intro _; refine FreeStep.own (base := w2.heap.size) rfl (ints3_ok _) fun u β W hW hn fr hfr K hK => ?_
      simp only [frameL, putL, Act.put, List.setIfInBounds_toArray, List.set_cons_zero, List.set_cons_succ, Nat.zero_add, Nat.reduceAdd] at hfr
      subst hfr
      have e15 : u 15 = .slice A4 n4 k4 := Have.get (k := 15) hn rfl
      simp only [e15] at hK
      have hsz := hW.size
      have Q := Lib.hid (R16.out W (HX.out.trans (hW.mono HX.out.size)))
      have HK := Lib.hid hK
      clear hK hn
      go_simp
      refine Q.out.mono ?_
      rintro e w9 ⟨v9, cs9, rfl, h9, hb9⟩
      exact HK.out v9 cs9 w9 hb9 (ints3_base hsz _ _ _ _ h9) (fun b hb => ((ints3_ok _).lt h9 b hb).1)
    refine Steps.cons ?_ ?_
    · intro _; refine FreeStep.val [4, 7, 10, 13, 16] _ rfl rfl fun u β W hW hn fr hfr K hK => ?_
      simp only [frameL, putL, Act.put, List.setIfInBounds_toArray, List.set_cons_zero, List.set_cons_succ, Nat.zero_add, Nat.reduceAdd] at hfr
      subst hfr
      have e1 : u 1 = .int .i64 s0 := Have.get (k := 1) hn rfl
      have f4 : (IntsE w2.heap.size) W (u 4) (one1 s1) (β 4) := Have.get (k := 4) hn rfl
      have f7 : (BoolsE w2.heap.size) W (u 7) P1 (β 7) := Have.get (k := 7) hn rfl
      have f10 : (Push3E w2.heap.size) W (u 10) P2 (β 10) := Have.get (k := 10) hn rfl
      have f13 : (Ints4E w2.heap.size) W (u 13) P3 (β 13) := Have.get (k := 13) hn rfl
      have f16 : (Ints3E w2.heap.size) W (u 16) P4 (β 16) := Have.get (k := 16) hn rfl
      obtain ⟨B4, j4, g4⟩ := RowE.slice f4
      obtain ⟨B7, j7, g7⟩ := RowE.slice f7
      obtain ⟨B10, j10, g10⟩ := ManyE.slice f10
      obtain ⟨B13, j13, g13⟩ := ManyE.slice f13
      obtain ⟨B16, j16, g16⟩ := ManyE.slice f16
      have hon4 : only [4, 7, 10, 13, 16] u 4 = u 4 := rfl
      have hon7 : only [4, 7, 10, 13, 16] u 7 = u 7 := rfl
      have hon10 : only [4, 7, 10, 13, 16] u 10 = u 10 := rfl
      have hon13 : only [4, 7, 10, 13, 16] u 13 = u 13 := rfl
      have hon16 : only [4, 7, 10, 13, 16] u 16 = u 16 := rfl
      simp only [hon16, hon13, hon10, hon7, hon4, e1, g4, g7, g10, g13, g16] at hK
      have HK := Lib.hid hK
      clear hK hn hon4 hon7 hon10 hon13 hon16 f4 f7 f10 f13 f16
      go_simp
      exact HK.out
    refine Steps.cons ?_ ?_
    · exact fun h => absurd h (by decide)
    refine Steps.cons ?_ ?_
    · exact fun h => absurd h (by decide)
    exact Steps.nil
  case tailR =>
    intro u β W hW hn hdis hbnd fr hfr
    simp only [frameL, putL, Act.put, List.setIfInBounds_toArray, List.set_cons_zero, List.set_cons_succ, Nat.zero_add, Nat.reduceAdd] at hfr
    subst hfr
    have z0 : u 0 = .pointer (some ⟨w.heap.size, 0, none⟩) := Have.get (k := 0) hn rfl
    have z1 : u 1 = .int .i64 s0 := Have.get (k := 1) hn rfl
    have z2 : u 2 = .pointer (some ⟨w.heap.size, 1, none⟩) := Have.get (k := 2) hn rfl
    have z3 : u 3 = .int .i64 s1 := Have.get (k := 3) hn rfl
    have f4 : (IntsE w2.heap.size) W (u 4) (one1 s1) (β 4) := Have.get (k := 4) hn rfl
    have z5 : u 5 = .pointer (some ⟨w.heap.size, 2, none⟩) := Have.get (k := 5) hn rfl
    have z6 : u 6 = .slice A1 n k1 := Have.get (k := 6) hn rfl
    have f7 : (BoolsE w2.heap.size) W (u 7) P1 (β 7) := Have.get (k := 7) hn rfl
    have z8 : u 8 = .pointer (some ⟨w.heap.size, 3, none⟩) := Have.get (k := 8) hn rfl
    have z9 : u 9 = .slice A2 n2 k2 := Have.get (k := 9) hn rfl
    have f10 : (Push3E w2.heap.size) W (u 10) P2 (β 10) := Have.get (k := 10) hn rfl
    have z11 : u 11 = .pointer (some ⟨w.heap.size, 4, none⟩) := Have.get (k := 11) hn rfl
    have z12 : u 12 = .slice A3 n3 k3 := Have.get (k := 12) hn rfl
    have f13 : (Ints4E w2.heap.size) W (u 13) P3 (β 13) := Have.get (k := 13) hn rfl
    have z14 : u 14 = .pointer (some ⟨w.heap.size, 5, none⟩) := Have.get (k := 14) hn rfl
    have z15 : u 15 = .slice A4 n4 k4 := Have.get (k := 15) hn rfl
    have f16 : (Ints3E w2.heap.size) W (u 16) P4 (β 16) := Have.get (k := 16) hn rfl
    have z17 : u 17 = .agg #[.int .i64 s0, u 4, u 7, u 10, u 13, u 16] := Have.get (k := 17) hn rfl
    clear hn
    show wpOps _ _ _ [18, 19] _ _
    obtain ⟨B4, m4, j4, g4⟩ : ∃ A m k, u 4 = .slice A m k := by obtain ⟨A, k, h⟩ := RowE.slice f4; exact ⟨_, _, _, h⟩
    obtain ⟨B7, m7, j7, g7⟩ : ∃ A m k, u 7 = .slice A m k := by obtain ⟨A, k, h⟩ := RowE.slice f7; exact ⟨_, _, _, h⟩
    obtain ⟨B10, m10, j10, g10⟩ : ∃ A m k, u 10 = .slice A m k := by obtain ⟨A, k, h⟩ := ManyE.slice f10; exact ⟨_, _, _, h⟩
    obtain ⟨B13, m13, j13, g13⟩ : ∃ A m k, u 13 = .slice A m k := by obtain ⟨A, k, h⟩ := ManyE.slice f13; exact ⟨_, _, _, h⟩
    obtain ⟨B16, m16, j16, g16⟩ : ∃ A m k, u 16 = .slice A m k := by obtain ⟨A, k, h⟩ := ManyE.slice f16; exact ⟨_, _, _, h⟩
    have z17' := z17
    rw [g4, g7, g10, g13, g16] at z17'
    rw [g4] at f4
    rw [g7] at f7
    rw [g10] at f10
    rw [g13] at f13
    rw [g16] at f16
    have hdd : ∀ i j (hi : i < 18) (hj : j < 18) (hij : i ≠ j), ∀ b ∈ β i, b ∉ β j := fun i j hi hj hij => hdis i j hi hj hij
    have hdis2 : (β 4 ++ (β 7 ++ (β 10 ++ (β 13 ++ β 16)))).Nodup := by
      have dd : ∀ (x y : List Nat), x.Nodup → y.Nodup → (∀ b ∈ x, b ∉ y) → (x ++ y).Nodup := fun x y h1 h2 h3 => List.nodup_append.2 ⟨h1, h2, fun b hb b' hb' e => h3 b hb (e ▸ hb')⟩
      refine dd _ _ ((ints_ok _).nodup f4) (dd _ _ ((bools_ok _).nodup f7) (dd _ _ ((push3_ok _).nodup f10) (dd _ _ ((ints4_ok _).nodup f13) ((ints3_ok _).nodup f16) ?_) ?_) ?_) ?_
      · exact hdd 13 16 (by decide) (by decide) (by decide)
      · intro b hb h
        rcases List.mem_append.1 h with h | h
        · exact hdd 10 13 (by decide) (by decide) (by decide) b hb h
        · exact hdd 10 16 (by decide) (by decide) (by decide) b hb h
      · intro b hb h
        simp only [List.mem_append] at h
        rcases h with h | h | h
        · exact hdd 7 10 (by decide) (by decide) (by decide) b hb h
        · exact hdd 7 13 (by decide) (by decide) (by decide) b hb h
        · exact hdd 7 16 (by decide) (by decide) (by decide) b hb h
      · intro b hb h
        simp only [List.mem_append] at h
        rcases h with h | h | h | h
        · exact hdd 4 7 (by decide) (by decide) (by decide) b hb h
        · exact hdd 4 10 (by decide) (by decide) (by decide) b hb h
        · exact hdd 4 13 (by decide) (by decide) (by decide) b hb h
        · exact hdd 4 16 (by decide) (by decide) (by decide) b hb h
    have hsx := hW.size
    have hbx := t3.later hW
    have hBW := HX.out.trans (hW.mono HX.out.size)
    have HF := Lib.hid (And.intro f4 (And.intro f7 (And.intro f10 (And.intro f13 (And.intro f16 (And.intro hdis2 (And.intro hbx hBW)))))))
    obtain ⟨c0, c1, c2, c3, c4, c5, cl⟩ := id hbx.all6
    have q0 := hbx.frozen 0
    have q1 := hbx.frozen 1
    have q2 := hbx.frozen 2
    have q3 := hbx.frozen 3
    have q4 := hbx.frozen 4
    have q5 := hbx.frozen 5
    simp only [z17']
    clear hdis hbnd hdd hdis2 f4 f7 f10 f13 f16 hbx hBW z0 z1 z2 z3 z5 z6 z8 z9 z11 z12 z14 z15 z17 z17' g4 g7 g10 g13 g16 R4 R7 R10 R13 R16 t1 t3 hW
    rw [wpOps_cons]
    refine wpOp_step rfl (fun K hK => ?_)
    have HK := Lib.hid hK
    clear hK
    go_simp
    refine HK.out _ _ ?_
    clear HK
    clear c0 c1 c2 c3 c4 c5 cl q0 q1 q2 q3 q4 q5
    rw [wpOps_cons]
    refine wpOp_step rfl (fun K hK => ?_)
    have HK := Lib.hid hK
    clear hK
    go_simp
    refine HK.out _ _ ?_
    clear HK
    unfold wpOps
    go_wp2
    obtain ⟨f4, f7, f10, f13, f16, hdis2, t3, hB⟩ := HF.out
    have x0_ := t3.set 0 (.int .i64 s0)
    have x1_ := x0_.set 1 (.slice B4 m4 j4)
    have x2_ := x1_.set 2 (.slice B7 m7 j7)
    have x3_ := x2_.set 3 (.slice B10 m10 j10)
    have x4_ := x3_.set 4 (.slice B13 m13 j13)
    have x5_ := x4_.set 5 (.slice B16 m16 j16)
    have y0 := x5_.cell 0 (.int .i64 s0) rfl
    have y1 := x5_.cell 1 (.slice B4 m4 j4) rfl
    have y2 := x5_.cell 2 (.slice B7 m7 j7) rfl
    have y3 := x5_.cell 3 (.slice B10 m10 j10) rfl
    have y4 := x5_.cell 4 (.slice B13 m13 j13) rfl
    have y5 := x5_.cell 5 (.slice B16 m16 j16) rfl
    have hBf := ((((((hB.setCell (p := ⟨w.heap.size + 1, 0, none⟩) hlo (.int .i64 s0)).setCell (p := ⟨w.heap.size + 1, 1, none⟩) hlo (.slice B4 m4 j4)).setCell (p := ⟨w.heap.size + 1, 2, none⟩) hlo (.slice B7 m7 j7)).setCell (p := ⟨w.heap.size + 1, 3, none⟩) hlo (.slice B10 m10 j10)).setCell (p := ⟨w.heap.size + 1, 4, none⟩) hlo (.slice B13 m13 j13)).setCell (p := ⟨w.heap.size + 1, 5, none⟩) hlo (.slice B16 m16 j16))
    have hfr : ∀ (V : World) (i : Nat) (v : Value) (b : Nat), w2.heap.size ≤ b → (V.setCell ⟨w.heap.size + 1, i, none⟩ v).heap[b]? = V.heap[b]? := fun V i v b hb => Below.heap_setCell V ⟨w.heap.size + 1, i, none⟩ v b (fun e => by
      have h2 : b = w.heap.size + 1 := e
      omega)
    obtain ⟨Wf, hWf⟩ : ∃ Wf, Wf = ((((((W.setCell ⟨w.heap.size + 1, 0, none⟩ (.int .i64 s0)).setCell ⟨w.heap.size + 1, 1, none⟩ (.slice B4 m4 j4)).setCell ⟨w.heap.size + 1, 2, none⟩ (.slice B7 m7 j7)).setCell ⟨w.heap.size + 1, 3, none⟩ (.slice B10 m10 j10)).setCell ⟨w.heap.size + 1, 4, none⟩ (.slice B13 m13 j13)).setCell ⟨w.heap.size + 1, 5, none⟩ (.slice B16 m16 j16)) := ⟨_, rfl⟩
    have hkeep : ∀ b, w2.heap.size ≤ b → Wf.heap[b]? = W.heap[b]? := fun b hb => by rw [hWf, hfr _ _ _ b hb, hfr _ _ _ b hb, hfr _ _ _ b hb, hfr _ _ _ b hb, hfr _ _ _ b hb, hfr _ _ _ b hb]
    rw [← hWf] at hBf x5_ y0 y1 y2 y3 y4 y5 ⊢
    have hwX : w.heap.size ≤ w2.heap.size := by omega
    have F4 := ints_base hwX _ _ _ _ ((ints_ok _).kept f4 fun b hb => hkeep b ((ints_ok _).lt f4 b hb).1)
    have F7 := bools_base hwX _ _ _ _ ((bools_ok _).kept f7 fun b hb => hkeep b ((bools_ok _).lt f7 b hb).1)
    have F10 := pushes3_base hwX _ _ _ _ ((push3_ok _).kept f10 fun b hb => hkeep b ((push3_ok _).lt f10 b hb).1)
    have F13 := ints4_base hwX _ _ _ _ ((ints4_ok _).kept f13 fun b hb => hkeep b ((ints4_ok _).lt f13 b hb).1)
    have F16 := ints3_base hwX _ _ _ _ ((ints3_ok _).kept f16 fun b hb => hkeep b ((ints3_ok _).lt f16 b hb).1)
    have FIN : ChE w.heap.size Wf (.agg #[.int .i64 s0, .slice B4 m4 j4, .slice B7 m7 j7, .slice B10 m10 j10, .slice B13 m13 j13, .slice B16 m16 j16]) { stack := s0, starts := one1 s1, accept := P1, call := P2, ret := P3, inner := P4 } (β 4 ++ (β 7 ++ (β 10 ++ (β 13 ++ β 16)))) := ⟨_, _, _, _, _, _, _, _, _, _, rfl, F4, F7, F10, F13, F16, rfl, hdis2⟩
    clear hWf hkeep hfr x0_ x1_ x2_ x3_ x4_ x5_ f4 f7 f10 f13 f16 F4 F7 F10 F13 F16
    exact bodyPost_ret (v := .tuple #[.agg #[.int .i64 s0, .slice B4 m4 j4, .slice B7 m7 j7, .slice B10 m10 j10, .slice B13 m13 j13, .slice B16 m16 j16], .int .i64 0]) (by simp [results, Try.results15, go_sem, y0, y1, y2, y3, y4, y5]) rfl ⟨_, _, rfl, FIN, hBf⟩
theorem impl_ChoicesOf (c : Ck) : ∀ base v bs w, BdC c → CkE base w v c bs → Calls Try.prog 15 #[v] w (PostV ChE (if okM c && okH (chOf c) then chOf c else nilCh) (if okM c then (if okH (chOf c) then 0 else 3) else 1) w) := by
  intro base v bs w hbc hck
  cases h : okM c with
  | false => exact impl_Of_no w hbc hck h
  | true =>
    rw [okH_chOf (okC_of h)]
    by_cases h1 : c.accept.length ≤ 5
    · by_cases h2 : c.stack ≤ 4
      · simp only [h1, h2, decide_true, Bool.and_true, if_true]
        exact impl_Of_yes w hbc hck h h1 h2
      · simp only [h1, h2, decide_true, decide_false, Bool.and_false]
        exact impl_Of_big2 w hbc hck h h1 (by omega)
    · simp only [h1, decide_false, Bool.false_and, Bool.and_false]
      exact impl_Of_big1 w hbc hck h (by omega)
end Go.Proofs.Yticmekdfdilcpaa
