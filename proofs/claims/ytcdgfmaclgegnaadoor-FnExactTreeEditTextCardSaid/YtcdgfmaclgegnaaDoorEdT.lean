/- The text of an edit, of the program. -/
import Derived.Test.YtcdgfmaclgegnaaDoorEdTS
import Derived.Test.YtcdgfmaclgegnaaDoorEdI
import Derived.Test.YtcdgfmaclgegnaaDoorLayI
import Derived.Test.YtcdgfmaclgegnaaDoorLayJ
import Derived.Test.YtcdgfmaclgegnaaDoorLit
import Derived.Deep.AppendLies
import Derived.OwnWalk
namespace Go.Proofs
theorem Tryd.extra156 : Builder.Extra Tryd.prog Tryd.lays156_ren := { sizeBuilder := by kernel_rfl, liesBuilder := by kernel_rfl, t5 := Tryd.underlying5, a5 := Tryd.isAgg5, z5 := Tryd.sizeOf5, v5 := Tryd.zeroValue5, infoByte := by kernel_rfl, cellsByte := by kernel_rfl, sizeByte := by kernel_rfl, neB5 := by decide }
end Go.Proofs
namespace Go.Proofs.YtcdgfmaclgegnaaDoor
open Go.RowKit
set_option linter.unusedVariables false

theorem fmt_dec (n : Nat) (hn : n < 100) (w : World) : Calls Tryd.prog 15 #[.int .i64 (n : Int), .int .i64 10] w fun e w' => e = .returned (.string (decS n)) ∧ w = w' :=
  (Any.strconv_FormatInt_10_small Tryd.lays173 n hn w).mono fun e w' ⟨h1, h2⟩ => ⟨h1, h2.symm⟩
theorem toInfo_str : (Tryd.prog.info? 9).map (fun i => (i.zero, i.size, i.bytes)) = some (some (.string ⟨#[]⟩), 1, 16) := by kernel_rfl
/-- A row of texts that the function made itself. -/
def WordsAt (base : Nat) (W : World) (v : Value) (xs : List ByteArray) : Prop := W.ownsRow base 9 1 v xs.length (xs.map .string)
theorem join_words {base : Nat} {W : World} {g c : Nat} {xs : List ByteArray} (h : WordsAt base W (.slice (some ⟨g, 0, none⟩) xs.length c) xs) (hn : xs.length ≤ 10) (hlen : (Lib.join (xs.map (·.data.toList)) [32]).length ≤ 1000) :
    Calls Tryd.prog 16 #[.slice (some ⟨g, 0, none⟩) xs.length c, .string ⟨#[32]⟩] W (TupPost (.string ⟨(Lib.join (xs.map (·.data.toList)) [32]).toArray⟩) W) := by
  have hcap : xs.length ≤ c ∧ c ≤ maxLen := by
    rcases h.2 with ⟨hv, _⟩ | ⟨g', cap, cur, hv, _, _, h1, h2, _⟩
    · cases hv
    · simp only [Value.slice.injEq] at hv
      obtain ⟨_, _, rfl⟩ := hv
      exact ⟨h1, h2⟩
  have hl := h.1
  refine (Any.strings_Join Tryd.lays156 Tryd.extra156 g 0 c xs ⟨#[32]⟩ W (fun j x hx => ?_) (h.lt g rfl).2 ?_ hcap.1 (by exact Nat.le_trans hlen (by decide))).mono fun e w' ⟨h1, h2⟩ => ⟨h1, h2⟩
  · have hj := (List.getElem?_eq_some_iff.1 hx).1
    rw [Nat.zero_add, h.cellAt j (by omega), List.getElem?_map, hx]
    rfl
  · omega
theorem keep_grown {base : Nat} {W w5 : World} {o : Obj} {B n : Nat} {T : TypeId} {cs : Array Value} {v : Value} {xs : List Value} (hg : (W.alloc o).grownBy w5 v.ownBlock) (hr : W.ownsRow base 9 1 v n xs) (hx : Bx (W.alloc o) B T cs) (hne : T ≠ 9) : Bx w5 B T cs := by
  refine hx.same (hg.block B hx.lt fun e => ?_)
  rcases hr.2 with ⟨rfl, _⟩ | ⟨g, cap, cur, rfl, _, hgc, _⟩
  · cases e
  · simp only [Value.ownBlock, Option.some.injEq] at e
    subst e
    have h1 : (W.alloc o).heap[B]? = W.heap[B]? := Below.heap_alloc W o B (Array.getElem?_eq_some_iff.1 hgc).1
    have h2 : (W.alloc o).heap[B]? = some (.cells cs T (0, 0)) := hx
    rw [h1, hgc] at h2
    simp only [Option.some.injEq, Obj.cells.injEq] at h2
    exact hne h2.2.1.symm
theorem words_grow {base : Nat} {w5 : World} {xs : List ByteArray} {x : ByteArray} {g c n : Nat} (hn : xs.length = n) (h : w5.ownsRow base 9 1 (.slice (some ⟨g, 0, none⟩) (n + 1) c) (n + 1) (xs.map .string ++ [.string x])) :
    WordsAt base w5 (.slice (some ⟨g, 0, none⟩) (xs ++ [x]).length c) (xs ++ [x]) := by
  subst hn
  unfold WordsAt
  rw [List.length_append, List.map_append]
  exact h
theorem join2 (x y : ByteArray) : (⟨(Lib.join ([x, y].map (·.data.toList)) [32]).toArray⟩ : ByteArray) = x ++ ⟨#[32]⟩ ++ y := by
  apply ByteArray.ext
  simp [Lib.join, List.intercalate]
theorem join3 (x y z : ByteArray) : (⟨(Lib.join ([x, y, z].map (·.data.toList)) [32]).toArray⟩ : ByteArray) = x ++ ⟨#[32]⟩ ++ y ++ (⟨#[32]⟩ ++ z) := by
  apply ByteArray.ext
  simp [Lib.join, List.intercalate]
theorem join4 (x y z u : ByteArray) : (⟨(Lib.join ([x, y, z, u].map (·.data.toList)) [32]).toArray⟩ : ByteArray) = x ++ ⟨#[32]⟩ ++ y ++ (⟨#[32]⟩ ++ z) ++ (⟨#[32]⟩ ++ u) := by
  apply ByteArray.ext
  simp [Lib.join, List.intercalate]
theorem join_size {xs : List ByteArray} {R : ByteArray} (h : (⟨(Lib.join (xs.map (·.data.toList)) [32]).toArray⟩ : ByteArray) = R) (hR : R.size ≤ 1000) : (Lib.join (xs.map (·.data.toList)) [32]).length ≤ 1000 := by
  rw [← h] at hR
  exact hR
theorem one_str {x : ByteArray} : ∀ u ∈ [Value.string x], u.oneCell' = true := by intro u hu; rw [List.mem_singleton.1 hu]; rfl
set_option maxHeartbeats 6400000 in
set_option maxRecDepth 100000 in
theorem impl_edtext (k a t : Nat) (s kw : ByteArray) (tb tx : Bool) (q : FuncId) (R : ByteArray) (w : World) (ha : a ≤ 60) (ht : t ≤ 60) (h60 : s.size ≤ 60) (hkw : kw.size ≤ 4)
    (hV : ∀ W, Calls Tryd.prog 13 #[.agg #[.int .i64 (k : Int), .int .i64 (a : Int), .int .i64 (t : Int), .string s]] W (TupPost (.bool true) W))
    (hF : ∀ W, Calls Tryd.prog 14 #[.int .i64 (k : Int)] W (TupPost (.tuple #[.agg #[.string kw, .bool tb, .bool tx, .func (.func q) #[] #[]], .bool true]) W))
    (hx : tb = true → tx = true)
    (hR : R = (if tx = false then kw ++ ⟨#[32]⟩ ++ decS a else if tb = false then kw ++ ⟨#[32]⟩ ++ decS a ++ tailT s else kw ++ ⟨#[32]⟩ ++ decS a ++ (⟨#[32]⟩ ++ decS t) ++ tailT s)) :
    Calls Tryd.prog 8 #[.agg #[.int .i64 (k : Int), .int .i64 (a : Int), .int .i64 (t : Int), .string s]] w (TupPost (.string R) w) := by
  obtain ⟨i0, hi, hz0, hz1, hz2⟩ := info_parts toInfo_str
  have hA := fun W => fmt_dec a (by omega) W
  have hT := fun W => fmt_dec t (by omega) W
  have hsa := decS_size a (by omega)
  have hst := decS_size t (by omega)
  have Hs : Hid (s = ⟨#[]⟩ ∧ tailT s = ⟨#[32, 45]⟩ ∨ (s.toList == []) = false ∧ tailT s = ⟨#[32]⟩ ++ s) := by
    rcases no_cases s with h | ⟨n1, n2, _⟩
    · exact .inl ⟨h, by rw [h]; rfl⟩
    · exact .inr ⟨ba_beq n1, by unfold tailT; rw [if_neg (by rw [n2]; simp)]⟩
  have HR := Lib.hid hR
  generalize tailT s = tt at *
  generalize decS a = da at *
  generalize decS t = dt at *
  have HA := Lib.hid hA
  have HT := Lib.hid hT
  have HV := Lib.hid hV
  have HF := Lib.hid hF
  have hx0 := Bx.new w 26 #[.int .i64 (k : Int), .int .i64 (a : Int), .int .i64 (t : Int), .string s]
  have hB0 := (Below.refl w.heap.size w).alloc (Nat.le_refl _) (.cells #[.int .i64 (k : Int), .int .i64 (a : Int), .int .i64 (t : Int), .string s] 26)
  have HX := Lib.hid (And.intro hx0 hB0)
  obtain ⟨c0, c1, c2, c3, cl⟩ := id hx0.all4
  clear hA hT hV hF hx0 hB0 hR ha ht
  go_enter Tryd.func8, Tryd.ntmps8
  go_wp2_with fail
  refine (HV.out _).mono ?_
  rintro e w1 ⟨rfl, hb1⟩
  have x1 := HX.out.1.later hb1
  have hB1 := HX.out.2.trans (hb1.mono HX.out.2.size)
  clear c0 c1 c2 c3 cl HX
  obtain ⟨c0, c1, c2, c3, cl⟩ := id x1.all4
  have HX := Lib.hid (And.intro x1 hB1)
  clear x1 hB1 hb1
  go_wp2_with fail
  refine (HF.out _).mono ?_
  rintro e w2 ⟨rfl, hb2⟩
  have x1 := (HX.out.1.later hb2).alloc (.cells #[.string kw, .bool tb, .bool tx, .func (.func q) #[] #[]] 38)
  have hB1 := (HX.out.2.trans (hb2.mono HX.out.2.size)).alloc (HX.out.2.trans (hb2.mono HX.out.2.size)).size (.cells #[.string kw, .bool tb, .bool tx, .func (.func q) #[] #[]] 38)
  have f1 := Bx.new w2 38 #[.string kw, .bool tb, .bool tx, .func (.func q) #[] #[]]
  clear c0 c1 c2 c3 cl HX hb2
  go_upto_region 4 with fail
  obtain ⟨w3, hw3⟩ : ∃ w3, w3 = w2.alloc (.cells #[.string kw, .bool tb, .bool tx, .func (.func q) #[] #[]] 38) := ⟨_, rfl⟩
  obtain ⟨fm, hfm⟩ : ∃ fm, fm = w2.heap.size := ⟨_, rfl⟩
  rw [← hw3, ← hfm] at f1
  rw [← hw3] at x1 hB1 ⊢
  rw [← hfm]
  have HX := Lib.hid (And.intro x1 (And.intro f1 hB1))
  clear hw3 hfm x1 f1 hB1
  obtain ⟨eb, heb⟩ : ∃ eb, eb = w.heap.size := ⟨_, rfl⟩
  have Heb := Lib.hid heb
  go_upto_region 4 with fail
  refine wp_region_free (by kernel_rfl) [
      .val [] (fun _ => .pointer (some ⟨fm, 0, none⟩)),
      .val [] (fun _ => .string kw),
      .val [] (fun _ => .pointer (some ⟨w.heap.size, 1, none⟩)),
      .val [] (fun _ => .int .i64 (a : Int)),
      .val [] (fun _ => .string da),
      .own (LitF w3.heap.size 9 #[.string kw, .string da] 2) (),
      .val [5] (fun u => u 5)] ?hp ?hfw ?deps ?oks ?steps ?tail
  case hp => kernel_rfl
  case hfw => kernel_rfl
  case deps => kernel_rfl
  case oks =>
    intro F hF
    simp only [List.mem_cons, List.not_mem_nil, or_false] at hF
    rcases hF with rfl | rfl | rfl | rfl | rfl | rfl | rfl
    all_goals first | trivial | exact ⟨_, litf_ok _ _ _ _⟩
  case steps =>
    refine Steps.cons ?_ ?_
    · refine FreeStep.val [] _ rfl rfl fun u β W hW hn fr hfr K hK => ?_
      simp only [frameL, putL, Act.put, List.setIfInBounds_toArray, List.set_cons_zero, List.set_cons_succ, Nat.zero_add, Nat.reduceAdd] at hfr
      subst hfr
      have HK := Lib.hid hK
      clear hK hn
      go_simp
      have h9 := HK.out
      revert h9
      clear HK
      go_simp
      try exact id
    refine Steps.cons ?_ ?_
    · refine FreeStep.val [] _ rfl rfl fun u β W hW hn fr hfr K hK => ?_
      simp only [frameL, putL, Act.put, List.setIfInBounds_toArray, List.set_cons_zero, List.set_cons_succ, Nat.zero_add, Nat.reduceAdd] at hfr
      subst hfr
      have e0 : u 0 = .pointer (some ⟨fm, 0, none⟩) := Have.get (k := 0) hn rfl
      simp only [e0] at hK
      obtain ⟨d0, d1, d2, d3, dl⟩ := id (HX.out.2.1.later hW).all4
      have HK := Lib.hid hK
      clear hK hn
      go_simp
      have h9 := HK.out
      revert h9
      clear HK
      go_simp
      try exact id
    refine Steps.cons ?_ ?_
    · refine FreeStep.val [] _ rfl rfl fun u β W hW hn fr hfr K hK => ?_
      simp only [frameL, putL, Act.put, List.setIfInBounds_toArray, List.set_cons_zero, List.set_cons_succ, Nat.zero_add, Nat.reduceAdd] at hfr
      subst hfr
      have HK := Lib.hid hK
      clear hK hn
      go_simp
      have h9 := HK.out
      revert h9
      clear HK
      go_simp
      try exact id
    refine Steps.cons ?_ ?_
    · refine FreeStep.val [] _ rfl rfl fun u β W hW hn fr hfr K hK => ?_
      simp only [frameL, putL, Act.put, List.setIfInBounds_toArray, List.set_cons_zero, List.set_cons_succ, Nat.zero_add, Nat.reduceAdd] at hfr
      subst hfr
      have e2 : u 2 = .pointer (some ⟨w.heap.size, 1, none⟩) := Have.get (k := 2) hn rfl
      simp only [e2] at hK
      obtain ⟨d0, d1, d2, d3, dl⟩ := id (HX.out.1.later hW).all4
      have HK := Lib.hid hK
      clear hK hn
      go_simp
      have h9 := HK.out
      revert h9
      clear HK
      go_simp
      try exact id
    refine Steps.cons ?_ ?_
    · refine FreeStep.calm [] _ rfl rfl fun u β W hW hn fr hfr K hK => ?_
      simp only [frameL, putL, Act.put, List.setIfInBounds_toArray, List.set_cons_zero, List.set_cons_succ, Nat.zero_add, Nat.reduceAdd] at hfr
      subst hfr
      have e3 : u 3 = .int .i64 (a : Int) := Have.get (k := 3) hn rfl
      simp only [e3] at hK
      have HK := Lib.hid hK
      clear hK hn
      go_simp
      refine (HA.out _).mono ?_
      rintro e w1 ⟨rfl, rfl⟩
      have h9 := HK.out _ (Below.refl _ _)
      revert h9
      clear HK
      go_simp
      try exact id
    refine Steps.cons ?_ ?_
    · refine FreeStep.own (base := w3.heap.size) rfl (litf_ok _ _ _ _) fun u β W hW hn fr hfr K hK => ?_
      simp only [frameL, putL, Act.put, List.setIfInBounds_toArray, List.set_cons_zero, List.set_cons_succ, Nat.zero_add, Nat.reduceAdd] at hfr
      subst hfr
      have e1 : u 1 = .string kw := Have.get (k := 1) hn rfl
      have e4 : u 4 = .string da := Have.get (k := 4) hn rfl
      simp only [e1, e4] at hK
      have hsz := hW.size
      have HK := Lib.hid hK
      clear hK hn
      go_simp
      exact HK.out _ [W.heap.size] _ ((Below.refl _ _).alloc (Nat.le_refl _) _) (LitF.new _ _ _ W hsz) (fun b hb => by rw [List.mem_singleton.1 hb]; exact Nat.le_refl _)
    refine Steps.cons ?_ ?_
    · refine FreeStep.val [5] _ rfl rfl fun u β W hW hn fr hfr K hK => ?_
      simp only [frameL, putL, Act.put, List.setIfInBounds_toArray, List.set_cons_zero, List.set_cons_succ, Nat.zero_add, Nat.reduceAdd] at hfr
      subst hfr
      have hon : only [5] u 5 = u 5 := rfl
      simp only [hon] at hK
      have HK := Lib.hid hK
      clear hK hn hon
      go_simp
      have h9 := HK.out
      revert h9
      clear HK
      go_simp
      try exact id
    exact Steps.nil
  case tail =>
    intro u_ β W hW hn hdis hbnd
    have z0 : u_ 0 = .pointer (some ⟨fm, 0, none⟩) := Have.get (k := 0) hn rfl
    have z1 : u_ 1 = .string kw := Have.get (k := 1) hn rfl
    have z2 : u_ 2 = .pointer (some ⟨w.heap.size, 1, none⟩) := Have.get (k := 2) hn rfl
    have z3 : u_ 3 = .int .i64 (a : Int) := Have.get (k := 3) hn rfl
    have z4 : u_ 4 = .string da := Have.get (k := 4) hn rfl
    have f5 : LitF w3.heap.size 9 #[.string kw, .string da] 2 W (u_ 5) () (β 5) := Have.get (k := 5) hn rfl
    obtain ⟨g, hg, hgx, _, hgl⟩ := f5
    have z6 : u_ 6 = u_ 5 := Have.get (k := 6) hn rfl
    rw [hg] at z6
    have z5 := hg
    rw [← frameL_eq (by kernel_rfl)]
    clear hn hdis hbnd
    simp only [frameL, putL, Act.put, List.setIfInBounds_toArray, List.set_cons_zero, List.set_cons_succ, Nat.zero_add, Nat.reduceAdd, z0, z1, z2, z3, z4, z5, z6]
    clear z0 z1 z2 z3 z4 z5 z6
    have x1 := HX.out.1.later hW
    have f1 := HX.out.2.1.later hW
    have hB1 := HX.out.2.2.trans (hW.mono HX.out.2.2.size)
    have hsz := HX.out.2.2.size
    have row : WordsAt w.heap.size W (.slice (some ⟨g, 0, none⟩) 2 2) [kw, da] := row_lit hgx (by omega) rfl (by unfold maxLen; omega)
    have HW := Lib.hid (And.intro x1 (And.intro f1 (And.intro hB1 row)))
    clear hW hgx x1 f1 hB1 row hsz hgl hg
    obtain ⟨c0, c1, c2, c3, cl⟩ := id HW.out.1.all4
    obtain ⟨d0, d1, d2, d3, dl⟩ := id HW.out.2.1.all4
    cases tx with
    | false =>
      cases tb with
      | true => exact absurd (hx rfl) (by simp)
      | false =>
        have e : R = kw ++ ⟨#[32]⟩ ++ da := HR.out
        subst e
        have hj := join_words (xs := [kw, da]) HW.out.2.2.2 (by simp) (join_size (join2 kw da) (by simp only [ByteArray.size_append]; have z0 : (⟨#[32]⟩ : ByteArray).size = 1 := rfl; omega))
        rw [join2] at hj
        have HJ := Lib.hid hj
        clear hj HR hx
        go_wp2_with (go_at_call 16; refine HJ.out.mono ?_; rintro e w4 ⟨rfl, hb4⟩)
        go_ret
        exact ⟨rfl, HW.out.2.2.1.trans (hb4.mono HW.out.2.2.1.size)⟩
    | true =>
      cases tb with
      | false =>
        have e : R = kw ++ ⟨#[32]⟩ ++ da ++ tt := HR.out
        clear HR hx
        rcases Hs.out with ⟨rfl, rfl⟩ | ⟨n1, rfl⟩
        · have HE := Lib.hid e
          clear e
          go_wp2_with (at_builtin; refine wpList_append_lies _ rfl _ _ 42 rfl w.heap.size 9 i0 (.string ⟨#[]⟩) 1 16 Tryd.underlying42 hi hz0 hz1 hz2 rfl (by decide) _ 2 _ rfl (HW.out.2.2.2.alloc _) ⟨W.heap.size, 0, none⟩ 1 1 [.string ⟨#[45]⟩] rfl rfl (World.news_of_block (Bx.new W _ _)) one_str (by decide) (by unfold maxLen; omega) (by omega) ?c3 _ rfl ?_)
          case c3 => have := HW.out.2.2.1.size; first | omega | (simp; omega)
          intro g_w5 cap_w5 w5 hown_w5 hg_w5 hat_w5 hlt_w5
          have hB6 : Below w.heap.size w w5 := (HW.out.2.2.1.alloc HW.out.2.2.1.size _).grown hg_w5 (by simp; have := HW.out.2.2.1.size; omega) (fun q hq => by have := (HW.out.2.2.2.lt g rfl).1; simp [Value.ownBlock] at hq; omega)
          have row2 := words_grow (xs := [kw, da]) (x := ⟨#[45]⟩) rfl hown_w5
          have hj := join_words (xs := [kw, da, ⟨#[45]⟩]) row2 (by simp) (join_size (join3 kw da ⟨#[45]⟩) (by simp only [ByteArray.size_append]; have z0 : (⟨#[32]⟩ : ByteArray).size = 1 := rfl; have z1 : (⟨#[45]⟩ : ByteArray).size = 1 := rfl; omega))
          rw [join3] at hj
          rw [show (⟨#[32]⟩ ++ ⟨#[45]⟩ : ByteArray) = ⟨#[32, 45]⟩ from by apply ByteArray.ext; simp] at hj
          rw [← HE.out] at hj
          have HJ := Lib.hid hj
          clear hj hown_w5 hg_w5 hat_w5 row2
          go_wp2_with (go_at_call 16; refine HJ.out.mono ?_; rintro e w6 ⟨rfl, hb6⟩)
          go_ret
          exact ⟨rfl, hB6.trans (hb6.mono hB6.size)⟩
        · have HE := Lib.hid e
          clear e
          go_wp2_with (at_builtin; refine wpList_append_lies _ rfl _ _ 42 rfl w.heap.size 9 i0 (.string ⟨#[]⟩) 1 16 Tryd.underlying42 hi hz0 hz1 hz2 rfl (by decide) _ 2 _ rfl (HW.out.2.2.2.alloc _) ⟨W.heap.size, 0, none⟩ 1 1 [.string s] rfl rfl (World.news_of_block (Bx.new W _ _)) one_str (by decide) (by unfold maxLen; omega) (by omega) ?c3 _ rfl ?_)
          case c3 => have := HW.out.2.2.1.size; first | omega | (simp; omega)
          intro g_w5 cap_w5 w5 hown_w5 hg_w5 hat_w5 hlt_w5
          have hB6 : Below w.heap.size w w5 := (HW.out.2.2.1.alloc HW.out.2.2.1.size _).grown hg_w5 (by simp; have := HW.out.2.2.1.size; omega) (fun q hq => by have := (HW.out.2.2.2.lt g rfl).1; simp [Value.ownBlock] at hq; omega)
          have row2 := words_grow (xs := [kw, da]) (x := s) rfl hown_w5
          have hj := join_words (xs := [kw, da, s]) row2 (by simp) (join_size (join3 kw da s) (by simp only [ByteArray.size_append]; have z0 : (⟨#[32]⟩ : ByteArray).size = 1 := rfl; have z1 : (⟨#[45]⟩ : ByteArray).size = 1 := rfl; omega))
          rw [join3] at hj
          rw [← HE.out] at hj
          have HJ := Lib.hid hj
          clear hj hown_w5 hg_w5 hat_w5 row2
          go_wp2_with (go_at_call 16; refine HJ.out.mono ?_; rintro e w6 ⟨rfl, hb6⟩)
          go_ret
          exact ⟨rfl, hB6.trans (hb6.mono hB6.size)⟩
      | true =>
        have e : R = kw ++ ⟨#[32]⟩ ++ da ++ (⟨#[32]⟩ ++ dt) ++ tt := HR.out
        clear HR hx
        go_wp2_with (first | (go_at_call 15; refine (HT.out _).mono ?_; rintro e w' ⟨rfl, rfl⟩) | (at_builtin; refine wpList_append_lies _ rfl _ _ 42 rfl w.heap.size 9 i0 (.string ⟨#[]⟩) 1 16 Tryd.underlying42 hi hz0 hz1 hz2 rfl (by decide) _ 2 _ rfl (HW.out.2.2.2.alloc _) ⟨W.heap.size, 0, none⟩ 1 1 [.string dt] rfl rfl (World.news_of_block (Bx.new W _ _)) one_str (by decide) (by unfold maxLen; omega) (by omega) ?c3 _ rfl ?_))
        case c3 => have := HW.out.2.2.1.size; first | omega | (simp; omega)
        intro g_w5 cap_w5 w5 hown_w5 hg_w5 hat_w5 hlt_w5
        have hB6 : Below w.heap.size w w5 := (HW.out.2.2.1.alloc HW.out.2.2.1.size _).grown hg_w5 (by simp; have := HW.out.2.2.1.size; omega) (fun q hq => by have := (HW.out.2.2.2.lt g rfl).1; simp [Value.ownBlock] at hq; omega)
        have row2 := words_grow (xs := [kw, da]) (x := dt) rfl hown_w5
        have hBW : Below W.heap.size W (W.alloc (.cells #[.string dt] 9)) := (Below.refl _ _).alloc (Nat.le_refl _) _
        have x1 := keep_grown hg_w5 HW.out.2.2.2 (HW.out.1.alloc (.cells #[.string dt] 9)) (by decide)
        have f1 := keep_grown hg_w5 HW.out.2.2.2 (HW.out.2.1.alloc (.cells #[.string dt] 9)) (by decide)
        have HV2 := Lib.hid (And.intro x1 (And.intro f1 (And.intro hB6 row2)))
        clear c0 c1 c2 c3 cl d0 d1 d2 d3 dl x1 f1 hB6 row2 hown_w5 hg_w5 hat_w5 hBW
        obtain ⟨c0, c1, c2, c3, cl⟩ := id HV2.out.1.all4
        obtain ⟨d0, d1, d2, d3, dl⟩ := id HV2.out.2.1.all4
        rcases Hs.out with ⟨rfl, rfl⟩ | ⟨n1, rfl⟩
        · have HE := Lib.hid e
          clear e
          go_wp2_with (at_builtin; refine wpList_append_lies _ rfl _ _ 42 rfl w.heap.size 9 i0 (.string ⟨#[]⟩) 1 16 Tryd.underlying42 hi hz0 hz1 hz2 rfl (by decide) _ 3 _ rfl (HV2.out.2.2.2.alloc _) ⟨w5.heap.size, 0, none⟩ 1 1 [.string ⟨#[45]⟩] rfl rfl (World.news_of_block (Bx.new w5 _ _)) one_str (by decide) (by unfold maxLen; omega) (by omega) ?c3 _ rfl ?_)
          case c3 => have := HV2.out.2.2.1.size; first | omega | (simp; omega)
          intro g_w7 cap_w7 w7 hown_w7 hg_w7 hat_w7 hlt_w7
          have hB8 : Below w.heap.size w w7 := (HV2.out.2.2.1.alloc HV2.out.2.2.1.size _).grown hg_w7 (by simp; have := HV2.out.2.2.1.size; omega) (fun q hq => by have := (HV2.out.2.2.2.lt g_w5 rfl).1; simp [Value.ownBlock] at hq; omega)
          have row3 := words_grow (xs := [kw, da, dt]) (x := ⟨#[45]⟩) rfl hown_w7
          have hj := join_words (xs := [kw, da, dt, ⟨#[45]⟩]) row3 (by simp) (join_size (join4 kw da dt ⟨#[45]⟩) (by simp only [ByteArray.size_append]; have z0 : (⟨#[32]⟩ : ByteArray).size = 1 := rfl; have z1 : (⟨#[45]⟩ : ByteArray).size = 1 := rfl; omega))
          rw [join4] at hj
          rw [show (⟨#[32]⟩ ++ ⟨#[45]⟩ : ByteArray) = ⟨#[32, 45]⟩ from by apply ByteArray.ext; simp] at hj
          rw [← HE.out] at hj
          have HJ := Lib.hid hj
          clear hj hown_w7 hg_w7 hat_w7 row3
          go_wp2_with (go_at_call 16; refine HJ.out.mono ?_; rintro e w8 ⟨rfl, hb8⟩)
          go_ret
          exact ⟨rfl, hB8.trans (hb8.mono hB8.size)⟩
        · have HE := Lib.hid e
          clear e
          go_wp2_with (at_builtin; refine wpList_append_lies _ rfl _ _ 42 rfl w.heap.size 9 i0 (.string ⟨#[]⟩) 1 16 Tryd.underlying42 hi hz0 hz1 hz2 rfl (by decide) _ 3 _ rfl (HV2.out.2.2.2.alloc _) ⟨w5.heap.size, 0, none⟩ 1 1 [.string s] rfl rfl (World.news_of_block (Bx.new w5 _ _)) one_str (by decide) (by unfold maxLen; omega) (by omega) ?c3 _ rfl ?_)
          case c3 => have := HV2.out.2.2.1.size; first | omega | (simp; omega)
          intro g_w7 cap_w7 w7 hown_w7 hg_w7 hat_w7 hlt_w7
          have hB8 : Below w.heap.size w w7 := (HV2.out.2.2.1.alloc HV2.out.2.2.1.size _).grown hg_w7 (by simp; have := HV2.out.2.2.1.size; omega) (fun q hq => by have := (HV2.out.2.2.2.lt g_w5 rfl).1; simp [Value.ownBlock] at hq; omega)
          have row3 := words_grow (xs := [kw, da, dt]) (x := s) rfl hown_w7
          have hj := join_words (xs := [kw, da, dt, s]) row3 (by simp) (join_size (join4 kw da dt s) (by simp only [ByteArray.size_append]; have z0 : (⟨#[32]⟩ : ByteArray).size = 1 := rfl; have z1 : (⟨#[45]⟩ : ByteArray).size = 1 := rfl; omega))
          rw [join4] at hj
          rw [← HE.out] at hj
          have HJ := Lib.hid hj
          clear hj hown_w7 hg_w7 hat_w7 row3
          go_wp2_with (go_at_call 16; refine HJ.out.mono ?_; rintro e w8 ⟨rfl, hb8⟩)
          go_ret
          exact ⟨rfl, hB8.trans (hb8.mono hB8.size)⟩

theorem kwS_W (k : Nat) (hk : 1 ≤ k ∧ k ≤ 5) : kindW (k : Int) = kwS k := by
  obtain rfl | rfl | rfl | rfl | rfl : k = 1 ∨ k = 2 ∨ k = 3 ∨ k = 4 ∨ k = 5 := by omega
  all_goals rfl
theorem kindF_form (k : Nat) (hk : 1 ≤ k ∧ k ≤ 5) : ∃ q, kindF (k : Int) = .func (.func q) #[] #[] := by
  obtain rfl | rfl | rfl | rfl | rfl : k = 1 ∨ k = 2 ∨ k = 3 ∨ k = 4 ∨ k = 5 := by omega
  all_goals exact ⟨_, rfl⟩
theorem textE_form (k a t : Nat) (s : ByteArray) (hk : 1 ≤ k ∧ k ≤ 5) : textE k a t s = (if decide ((k : Int) = 1 ∨ (k : Int) = 4 ∨ (k : Int) = 5) = false then kwS k ++ ⟨#[32]⟩ ++ decS a else if decide ((k : Int) = 4) = false then kwS k ++ ⟨#[32]⟩ ++ decS a ++ tailT s else kwS k ++ ⟨#[32]⟩ ++ decS a ++ (⟨#[32]⟩ ++ decS t) ++ tailT s) := by
  obtain rfl | rfl | rfl | rfl | rfl : k = 1 ∨ k = 2 ∨ k = 3 ∨ k = 4 ∨ k = 5 := by omega
  all_goals rfl
set_option maxHeartbeats 1600000 in
theorem impl_TreeEditText (k a t : Int) (s : ByteArray) (w : World) (hs : s.size ≤ 1048576) : Calls Tryd.prog 8 #[.agg #[.int .i64 k, .int .i64 a, .int .i64 t, .string s]] w (TupPost (.string (if edB k a t s = true then textE k.toNat a.toNat t.toNat s else ⟨#[]⟩)) w) := by
  cases hv : edB k a t s with
  | true =>
    rw [if_pos rfl]
    obtain ⟨k, a, t, rfl, rfl, rfl, hk, ha, ht, _, _, h60, _, _⟩ := edB_iff hv
    simp only [Int.toNat_natCast]
    obtain ⟨q, hq⟩ := kindF_form k hk
    refine impl_edtext k a t s (kwS k) (decide ((k : Int) = 4)) (decide ((k : Int) = 1 ∨ (k : Int) = 4 ∨ (k : Int) = 5)) q _ w ha ht h60 (kwS_size k) (fun W => ?_) (fun W => ?_) (fun h => ?_) (textE_form k a t s hk)
    · have := impl_ValidTreeEdit (k : Int) (a : Int) (t : Int) s W hs
      rwa [hv] at this
    · have := impl_formOf (k : Int) W
      rwa [kwS_W k hk, hq, decide_eq_true (show 1 ≤ (k : Int) ∧ (k : Int) ≤ 5 by omega)] at this
    · rw [decide_eq_true_eq] at h ⊢
      exact .inr (.inl h)
  | false =>
    rw [if_neg (by simp)]
    have hV := fun W => impl_ValidTreeEdit k a t s W hs
    rw [hv] at hV
    have HV := Lib.hid hV
    have hx := Bx.new w 26 #[.int .i64 k, .int .i64 a, .int .i64 t, .string s]
    have hB := (Below.refl w.heap.size w).alloc (Nat.le_refl _) (.cells #[.int .i64 k, .int .i64 a, .int .i64 t, .string s] 26)
    obtain ⟨c0, c1, c2, c3, cl⟩ := id hx.all4
    clear hV hv hx
    go_enter Tryd.func8, Tryd.ntmps8
    go_wp2_with fail
    refine (HV.out _).mono ?_
    rintro e w1 ⟨rfl, hb1⟩
    go_wp2
    go_ret
    exact ⟨rfl, hB.trans (hb1.mono hB.size)⟩
end Go.Proofs.YtcdgfmaclgegnaaDoor
