import Derived.Test.YtnclhgaikglbgaaMFnPutAndCut0
import Derived.Test.YtnclhgaikglbgaaMFnPutAndCut17
import Derived.Test.YtnclhgaikglbgaaMFnPutAndCut15
import Derived.Test.YtnclhgaikglbgaaMFnPutAndCut14
import Derived.Deep.AppendLies
import Derived.OwnWalk
import Derived.Deep.RegionWith
import Derived.Deep.DeepCutAuto
import Derived.Lib.Hide
import Derived.Test.YtnclhgaikglbgaaMFnPutAndCut9
import Derived.Test.YtnclhgaikglbgaaMFnPutAndCut3
/- l01Ways of the model: the rows. -/
namespace Go.Proofs.Ytnclhgaikglbgaa
open Go.RowKit
set_option linter.unusedVariables false

/-- A row of the table, as far as its first d places are done. -/
def wRowT (L n d : Nat) : List Int := (List.range (L + 2)).map fun i => if n = 0 ∨ i < d then (wy n i : Int) else 0
def wRow (L n : Nat) : List Int := (List.range (L + 2)).map fun i => (wy n i : Int)
def wRows (L n : Nat) : List (List Int) := (List.range n).map (wRow L)
theorem wRow_at {L n d : Nat} (h : d < L + 2) : (wRow L n)[d]? = some (wy n d : Int) := by simp [wRow, h]
theorem wRow_len (L n : Nat) : (wRow L n).length = L + 2 := by simp [wRow]
theorem wRowT_len (L n d : Nat) : (wRowT L n d).length = L + 2 := by simp [wRowT]
theorem wRows_len (L n : Nat) : (wRows L n).length = n := by simp [wRows]
theorem wRows_at {L n k : Nat} (h : k < n) : (wRows L n)[k]? = some (wRow L k) := by simp [wRows, h]
theorem wRows_succ (L n : Nat) : wRows L (n + 1) = wRows L n ++ [wRow L n] := by simp [wRows, List.range_succ]
theorem wRowT_here {L n d : Nat} (hn : n ≠ 0) (h : d < L + 2) : (wRowT L n d)[d]? = some 0 := by
  simp [wRowT, h, hn]
theorem wRowT_set {L n d : Nat} {v : Int} (hn : n ≠ 0) (hv : v = (wy n d : Int)) : (wRowT L n d).set d v = wRowT L n (d + 1) := by
  apply List.ext_getElem?
  intro i
  rw [List.getElem?_set, wRowT_len]
  by_cases hi : i < L + 2
  · have e : ∀ k, (wRowT L n k)[i]? = some (if n = 0 ∨ i < k then (wy n i : Int) else 0) := fun k => by simp [wRowT, hi]
    rw [e, e]
    by_cases h : d = i
    · subst h
      rw [if_pos rfl, if_pos hi, if_pos (.inr (by omega)), hv]
    · rw [if_neg h]
      by_cases h2 : n = 0 ∨ i < d
      · rw [if_pos h2, if_pos (by omega)]
      · rw [if_neg h2, if_neg (by omega)]
  · rw [List.getElem?_eq_none (by rw [wRowT_len]; omega), List.getElem?_eq_none (l := wRowT L n (d + 1)) (by rw [wRowT_len]; omega)]
    split
    · rw [if_neg (by omega)]
    · rfl
theorem wRowT_zero {L n : Nat} (hn : n ≠ 0) : List.replicate (L + 2) 0 = wRowT L n 0 := by
  apply List.ext_getElem?
  intro i
  by_cases hi : i < L + 2
  · simp [wRowT, hi, hn]
  · rw [List.getElem?_eq_none (by simp; omega), List.getElem?_eq_none (by rw [wRowT_len]; omega)]
theorem wRowT_first (L d : Nat) : (List.replicate (L + 2) (0 : Int)).set 0 1 = wRow L 0 := by
  apply List.ext_getElem?
  intro i
  rw [List.getElem?_set]
  by_cases hi : i < L + 2
  · rw [wRow_at hi]
    by_cases h : 0 = i
    · subst h; simp [wy]
    · rw [if_neg h, wy_zero 0 i (by omega)]; simp [hi]
  · rw [List.getElem?_eq_none (l := wRow L 0) (by rw [wRow_len]; omega), if_neg (by omega), List.getElem?_eq_none (by simp; omega)]
theorem wRowT_done {L n : Nat} (h : n ≤ L) : wRowT L n (L + 1) = wRow L n := by
  apply List.ext_getElem?
  intro i
  by_cases hi : i < L + 2
  · rw [wRow_at hi]
    have e : (wRowT L n (L + 1))[i]? = some (if n = 0 ∨ i < L + 1 then (wy n i : Int) else 0) := by simp [wRowT, hi]
    rw [e]
    by_cases h2 : n = 0 ∨ i < L + 1
    · rw [if_pos h2]
    · rw [if_neg h2, wy_zero n i (by omega)]; rfl
  · rw [List.getElem?_eq_none (by rw [wRowT_len]; omega), List.getElem?_eq_none (by rw [wRow_len]; omega)]
theorem cell_later3 {w W : World} {p : Addr} {v : Value} (h : w.cell? p = some v) (hb : Below w.heap.size w W) : W.cell? p = some v := (hb.cell (World.block_lt_of_cell? _ _ h)).trans h
theorem setCell_turned (W : World) (g d : Nat) (v : Value) : Turned [g] W (W.setCell ⟨g, d, none⟩ v) := ⟨rfl, rfl, rfl, by simp, fun b hb hn => Below.heap_setCell W ⟨g, d, none⟩ v b (fun e => hn (by rw [show b = g from e]; exact List.mem_singleton.2 rfl))⟩
theorem one_singW {v : Value} (h : v.oneCell' = true) : ∀ u ∈ [v], u.oneCell' = true := by intro u hu; rw [List.mem_singleton.1 hu]; exact h
/-- The value at one index, and which blocks are its own. -/
theorem many_at3 {α : Type} {base : Nat} {e : TypeId} {E : EP α} {w : World} {v : Value} {xs : List α} {bs : List Nat} (h : ManyE base e E w v xs bs) {j : Nat} {x : α} (hj : xs[j]? = some x) :
    ∃ g c u cs, v = .slice (some ⟨g, 0, none⟩) xs.length c ∧ w.cell? ⟨g, j, none⟩ = some u ∧ E w u x cs ∧ g < w.heap.size ∧ g ∈ bs ∧ ∀ b ∈ cs, b ∈ bs := by
  obtain ⟨vs, bss, hr, hl, hx, rfl, hn⟩ := h
  have hjl := (List.getElem?_eq_some_iff.1 hj).1
  have hvl := hr.1
  rcases hr.2 with ⟨_, h0⟩ | ⟨g, cap, cur, rfl, hb, hg, _⟩
  · omega
  have hu : vs[j]? = some (vs[j]'(by omega)) := List.getElem?_eq_getElem (by omega)
  have hc : bss[j]? = some (bss[j]'(by omega)) := List.getElem?_eq_getElem (by omega)
  exact ⟨g, cap, vs[j]'(by omega), bss[j]'(by omega), rfl, by rw [hr.cellAt j (by omega)]; exact hu, hx j x _ _ hj hu hc, (hr.lt g rfl).2, List.mem_append_left _ (by simp [Value.ownBlock]),
    fun b hb => List.mem_append_right _ (List.mem_flatten.2 ⟨_, List.mem_of_getElem? hc, hb⟩)⟩
/-- The world of the inner loop: the rows that are done, and the row that is being filled. -/
structure WayW (w : World) (L n d : Nat) (vo : Value) (g kr : Nat) (bs : List Nat) (W : World) : Prop where
  out : Ints2E w.heap.size W vo (wRows L n) bs
  row : IntsE w.heap.size W (.slice (some ⟨g, 0, none⟩) (L + 2) kr) (wRowT L n d) [g]
  apart : g ∉ bs
  below : Below w.heap.size w W
theorem WayW.later {w W W' : World} {L n d g kr : Nat} {vo : Value} {bs : List Nat} (h : WayW w L n d vo g kr bs W) (hb : Below W.heap.size W W') : WayW w L n d vo g kr bs W' := ⟨(ints2_ok _).later h.out hb, (ints_ok _).later h.row hb, h.apart, h.below.trans (hb.mono h.below.size)⟩
/-- What the row holds after a store. -/
theorem WayW.put {w W : World} {L n d g kr : Nat} {vo : Value} {bs : List Nat} (h : WayW w L n d vo g kr bs W) (v : Int) :
    IntsE w.heap.size (W.setCell ⟨g, d, none⟩ (.int .i64 v)) (.slice (some ⟨g, 0, none⟩) (L + 2) kr) ((wRowT L n d).set d v) [g] ∧ Ints2E w.heap.size (W.setCell ⟨g, d, none⟩ (.int .i64 v)) vo (wRows L n) bs ∧ Below w.heap.size w (W.setCell ⟨g, d, none⟩ (.int .i64 v)) := by
  have p := RowE.put1 (f := fun x => Value.int .i64 x) h.row d v
  have hg := (ints_ok _).lt h.row g (by simp)
  exact ⟨p.1, (ints2_ok _).off h.out p.2 (fun b hb hm => h.apart (by rw [← List.mem_singleton.1 hm]; exact hb)), p.2.below h.below h.below.size (fun b hb => by rw [List.mem_singleton.1 hb]; exact hg.1)⟩

/-- A row that is done. -/
theorem wrow_at {w W : World} {L n d g kr ko : Nat} {Ao : Option Addr} {bs : List Nat} (h : WayW w L n d (.slice Ao n ko) g kr bs W) {k : Nat} (hk : k < n) :
    ∃ go u c bq, Ao = some ⟨go, 0, none⟩ ∧ W.cell? ⟨go, k, none⟩ = some u ∧ IntsE w.heap.size W u (wRow L k) bq ∧ go < W.heap.size ∧ (g ≠ go ∧ g ∉ bq) ∧ c = ko := by
  obtain ⟨go, c, u, bq, hv, hc, hE, hg, hm, hs⟩ := many_at3 h.out (wRows_at hk)
  simp only [Value.slice.injEq] at hv
  exact ⟨go, u, ko, bq, hv.1, hc, hE, hg, ⟨fun e => h.apart (by rw [e]; exact hm), fun e => h.apart (hs g e)⟩, rfl⟩
theorem madeCells_eqW (n : Nat) : madeCells #[.int .i64 0] n = Array.replicate n (.int .i64 0) := by
  apply Array.toList_inj.1
  rw [toList_madeCells_one]
  simp
theorem List.flatMap_replicate_one (n : Nat) (x : Int) : (List.replicate n x).flatMap (fun x => [Value.int .i64 x]) = List.replicate n (.int .i64 x) := by
  induction n with
  | zero => rfl
  | succ n ih => rw [List.replicate_succ, List.flatMap_cons, ih, List.replicate_succ]; rfl
theorem wrap_ways {n : Int} (h : 0 ≤ n ∧ n ≤ 4000000000000000000) : IntKind.i64.wrap n = n := by unfold IntKind.wrap IntKind.signed IntKind.bits; simp; omega

set_option maxHeartbeats 12800000 in
set_option maxRecDepth 100000 in
theorem spec_ways (L : Nat) (w : World) (hL : L ≤ 20) : Calls Try.prog 58 #[.int .i64 (L : Int)] w (NewPost Ints2E (wRows L (L + 1)) w) := by
  obtain ⟨i0, hi, hz0, hz1, hz2⟩ := info_parts toInfo_i64
  obtain ⟨j0, hj, hy0, hy1, hy2⟩ := info_parts toInfo_ints
  have hB0 := (Below.refl w.heap.size w).alloc (Nat.le_refl _) (.cells #[] 25)
  have hO0 : Ints2E w.heap.size (w.alloc (.cells #[] 25)) (.slice (some ⟨w.heap.size, 0, none⟩) 0 0) (wRows L 0) [w.heap.size] := many_lit (bss := []) 0 (Bx.new w 25 #[]) (Nat.le_refl _) rfl trivial (by simp) (by unfold maxLen; omega)
  have HO := Lib.hid (And.intro hO0 hB0)
  clear hB0 hO0
  go_enter Try.func58, Try.ntmps58
  go_wp2_with fail
  go_loopw [3, 4] (fun o i wr => ∃ n : Nat, n ≤ L + 1 ∧ i = .int .i64 (n : Int) ∧ (∃ bs, Ints2E w.heap.size wr o (wRows L n) bs) ∧ Below w.heap.size w wr) (fun _ i _ => L + 1 - (intOf i).toNat)
  case atStart => exact ⟨0, Nat.zero_le _, rfl, ⟨_, HO.out.1⟩, HO.out.2⟩
  case round =>
    clear HO
    obtain ⟨n, hn, rfl, ⟨bs, hO⟩, hB⟩ := hrel
    obtain ⟨Ao, ko, e'⟩ := ManyE.slice hO
    rw [wRows_len] at e'
    subst e'
    obtain ⟨Wo, rfl⟩ : ∃ y, y = wr := ⟨_, rfl⟩
    by_cases hlt : n ≤ L
    · have d1 : decide ((n : Int) ≤ (L : Int)) = true := decide_eq_true (by omega)
      have hgp : Wo.heap.size ∉ bs := fun hm => by have := ((ints2_ok _).lt hO _ hm).2; omega
      have hs0 := hB.size
      have hal := (Below.refl Wo.heap.size Wo).alloc (Nat.le_refl _) (.cells (Array.replicate (L + 2) (.int .i64 0)) 2)
      have hrow0 : IntsE w.heap.size (Wo.alloc (.cells (Array.replicate (L + 2) (.int .i64 0)) 2)) (.slice (some ⟨Wo.heap.size, 0, none⟩) (L + 2) (L + 2)) (List.replicate (L + 2) 0) [Wo.heap.size] :=
        rowE_lit (L + 2) (Bx.new Wo 2 _) hs0 (by simp) (by simp [List.flatMap_replicate_one]) (by simp) (by unfold maxLen; omega)
      have hX0 : (n ≠ 0 → WayW w L n 0 (.slice Ao n ko) Wo.heap.size (L + 2) bs (Wo.alloc (.cells (Array.replicate (L + 2) (.int .i64 0)) 2))) ∧
          (n = 0 → WayW w L n 0 (.slice Ao n ko) Wo.heap.size (L + 2) bs ((Wo.alloc (.cells (Array.replicate (L + 2) (.int .i64 0)) 2)).setCell ⟨Wo.heap.size, 0, none⟩ (.int .i64 1))) := by
        have p := RowE.put1 (f := fun x => Value.int .i64 x) hrow0 0 1
        refine ⟨fun h => ⟨(ints2_ok _).later hO hal, by rw [← wRowT_zero h]; exact hrow0, hgp, hB.trans (hal.mono hs0)⟩, fun h => ?_⟩
        subst h
        refine ⟨(ints2_ok _).off ((ints2_ok _).later hO hal) p.2 (fun b hb hm => hgp (by rw [← List.mem_singleton.1 hm]; exact hb)), ?_, hgp, p.2.below (hB.trans (hal.mono hs0)) (hB.trans (hal.mono hs0)).size (fun b hb => by rw [List.mem_singleton.1 hb]; exact hs0)⟩
        have e : wRowT L 0 0 = wRow L 0 := by simp [wRowT, wRow]
        rw [e, ← wRowT_first L 0]
        exact p.1
      have HX0 := Lib.hid hX0
      clear hO hB hgp hrow0 hX0 hal
      have hA0 : (madeCells #[.int .i64 0] (L + 2))[0]? = some (.int .i64 0) := by rw [madeCells_eqW]; simp
      have cA : (Wo.alloc (.cells (madeCells #[.int .i64 0] (L + 2)) 2)).cell? ⟨Wo.heap.size, 0, none⟩ = some (.int .i64 0) := (Bx.new Wo 2 (madeCells #[.int .i64 0] (L + 2))).cell 0 _ hA0
      have eW : (Wo.alloc (.cells ((madeCells #[.int .i64 0] (L + 2)).setIfInBounds 0 (.int .i64 1)) 2)) = (Wo.alloc (.cells (Array.replicate (L + 2) (.int .i64 0)) 2)).setCell ⟨Wo.heap.size, 0, none⟩ (.int .i64 1) := by
        rw [← madeCells_eqW]; exact (World.setCell_alloc_at _ _ _ _ _ rfl).symm
      have EW := Lib.hid eW
      have EM := Lib.hid (madeCells_eqW (L + 2))
      clear hA0 eW
      have tail : ∀ (wr : World) (d : Nat), WayW w L n d (.slice Ao n ko) Wo.heap.size (L + 2) bs wr → (n = 0 ∨ d = L + 1) → WayW w L n (L + 1) (.slice Ao n ko) Wo.heap.size (L + 2) bs wr := fun wr d h hd => by
        rcases hd with rfl | rfl
        · have e : wRowT L 0 (L + 1) = wRowT L 0 d := by simp [wRowT]
          exact ⟨h.out, by rw [e]; exact h.row, h.apart, h.below⟩
        · exact h
      have Tail := Lib.hid tail
      clear tail
      rcases Nat.eq_zero_or_pos n with h0 | hpos
      · subst h0
        have HX := Lib.hid (HX0.out.2 rfl)
        clear HX0
        go_wp2_with (refine wpList_make_row _ rfl _ _ 25 rfl 2 i0 (.int .i64 0) Try.underlying25 hi hz0 hz1 rfl .i64 .i64 (L + 2) rfl rfl ?b2 ?b3 ?_)
        case b2 => omega
        case b3 => omega
        rw [EW.out]
        go_loopw [6] (fun i wr => i = .int .i64 0 ∧ WayW w L 0 0 (.slice Ao 0 ko) Wo.heap.size (L + 2) bs wr) (fun i _ => 0)
        case atStart => exact ⟨rfl, HX.out⟩
        case round =>
          clear HX
          obtain ⟨rfl, hX⟩ := hrel
          have HX := Lib.hid (Tail.out wr 0 hX (by first | exact .inl rfl | exact .inl trivial))
          clear hX
          obtain ⟨vs, hrow, hbs_⟩ := HX.out.out.held
          rw [wRows_len] at hrow
          have HR := Lib.hid (And.intro hrow hbs_)
          have hz3 := HX.out.below.size
          clear hrow hbs_
          go_wp2_with (at_builtin; refine wpList_append_lies _ rfl _ _ 78 rfl w.heap.size 25 j0 (.slice none 0 0) 1 24 Try.underlying78 hj hy0 hy1 hy2 rfl (by decide) _ 0 _ rfl (HR.out.1.alloc _) ⟨wr.heap.size, 0, none⟩ 1 1 [.slice (some ⟨Wo.heap.size, 0, none⟩) (L + 2) (L + 2)] rfl rfl (World.news_of_block (Bx.new wr _ _)) (one_singW rfl) (by decide) ?c1 ?c2 ?c3 _ rfl ?_)
          case c1 => unfold maxLen; omega
          case c2 => omega
          case c3 => simp; omega
          intro g1 cap1 w5 hown hg5 hat hltg
          have hX := HX.out
          have hB6 : Below w.heap.size w w5 := (hX.below.alloc hX.below.size _).grown hg5 (by simp; omega) (fun k hk => ((ints2_ok _).lt hX.out k (HR.out.2 k hk)).1)
          have hre : IntsE w.heap.size wr (.slice (some ⟨Wo.heap.size, 0, none⟩) (L + 2) (L + 2)) (wRow L 0) [Wo.heap.size] := by have := hX.row; rwa [wRowT_done (by omega)] at this
          obtain ⟨bs6, hS6, _⟩ := many_grow (ints_ok _) ((ints2_ok _).later hX.out ((Below.refl _ _).alloc (Nat.le_refl _) _)) (wRows_len L 0) (HR.out.1.alloc _) ((ints_ok _).later hre ((Below.refl _ _).alloc (Nat.le_refl _) _)) (fun b hb hm => hX.apart (by rw [← List.mem_singleton.1 hm]; exact hb)) hown hg5 rfl (by rcases hat with h | h; exact .inl h; exact .inr (by rw [World.size_alloc]; exact h))
          rw [← wRows_succ] at hS6
          have HS6 := Lib.hid (And.intro hS6 hB6)
          clear hown hg5 hat hX hS6 hB6 hre HR HX
          go_wp2
          go_roundw
          case rel => exact ⟨0 + 1, by omega, by first | rfl | go_num, ⟨_, HS6.out.1⟩, HS6.out.2⟩
          case measure => simp [intOf]; try omega
      · clear cA
        have d7 : ((n : Int) == 0) = false := by simp; omega
        have HX := Lib.hid (HX0.out.1 (by omega))
        clear HX0
        go_wp2_with (refine wpList_make_row _ rfl _ _ 25 rfl 2 i0 (.int .i64 0) Try.underlying25 hi hz0 hz1 rfl .i64 .i64 (L + 2) rfl rfl ?b2 ?b3 ?_)
        case b2 => first | omega | (rw [hz2]; omega)
        case b3 => omega
        rw [EM.out]
        go_loopw [6] (fun i wr => ∃ d : Nat, d ≤ L + 1 ∧ i = .int .i64 (d : Int) ∧ WayW w L n d (.slice Ao n ko) Wo.heap.size (L + 2) bs wr) (fun i _ => L + 1 - (intOf i).toNat)
        case atStart => exact ⟨0, Nat.zero_le _, rfl, HX.out⟩
        case round =>
          clear HX
          obtain ⟨d, hd, rfl, hX⟩ := hrel
          by_cases hdl : d < L + 1
          · obtain ⟨go, vq, cq, bq, hAo, hco, hEq, hgo, hdis1, _⟩ := wrow_at hX (show n - 1 < n by omega)
            subst hAo
            obtain ⟨Aq, kq, eq_⟩ := RowE.slice hEq
            rw [wRow_len] at eq_
            subst eq_
            obtain ⟨gq, hAq, _, hbq⟩ := RowE.head hEq (j := 0) (by rw [wRow_len]; omega)
            subst hAq
            have HX := Lib.hid hX
            have HQ := Lib.hid (And.intro hco hEq)
            have HD := Lib.hid hdis1
            have hs1 := hX.below.size
            clear hX hco hEq hdis1 hbq hgo
            have d5 : decide ((0 : Int) < (n : Int)) = true := decide_eq_true (by omega)
            have d6 : decide (d ≤ L) = true := decide_eq_true (by omega)
            go_upto_region 11 with fail
            clear d5 d6
            refine wp_region_free_seq (by kernel_rfl) [
                .val [] (fun _ => .slice (some ⟨Wo.heap.size, 0, none⟩) (L + 2) (L + 2)),
                .val [] (fun _ => .int .i64 (d : Int)),
                .val [] (fun _ => .slice (some ⟨go, 0, none⟩) n ko),
                .val [] (fun _ => .int .i64 (n : Int)),
                .val [] (fun _ => .int .i64 ((n - 1 : Nat) : Int)),
                .val [] (fun _ => .pointer (some ⟨go, n - 1, none⟩)),
                .val [] (fun _ => .slice (some ⟨gq, 0, none⟩) (L + 2) kq),
                .val [] (fun _ => .int .i64 (d : Int)),
                .val [] (fun _ => .pointer (some ⟨gq, d, none⟩)),
                .val [] (fun _ => .int .i64 ((wy (n - 1) (d) : Int))),
                .val [] (fun _ => .int .i64 (2 * (wy (n - 1) (d) : Int))),
                .val [] (fun _ => .slice (some ⟨go, 0, none⟩) n ko),
                .val [] (fun _ => .int .i64 (n : Int)),
                .val [] (fun _ => .int .i64 ((n - 1 : Nat) : Int)),
                .val [] (fun _ => .pointer (some ⟨go, n - 1, none⟩)),
                .val [] (fun _ => .slice (some ⟨gq, 0, none⟩) (L + 2) kq),
                .val [] (fun _ => .int .i64 (d : Int)),
                .val [] (fun _ => .int .i64 ((d + 1 : Nat) : Int)),
                .val [] (fun _ => .pointer (some ⟨gq, d + 1, none⟩)),
                .val [] (fun _ => .int .i64 ((wy (n - 1) (d + 1) : Int))),
                .val [] (fun _ => .int .i64 (2 * (wy (n - 1) (d + 1) : Int))),
                .val [] (fun _ => .int .i64 (2 * (wy (n - 1) (d) : Int) + 2 * (wy (n - 1) (d + 1) : Int))),
                .val [] (fun _ => .pointer (some ⟨Wo.heap.size, d, none⟩))] 23 ?hp ?hfw ?deps ?oks ?hforced ?hf ?steps ?tail
            case hp => kernel_rfl
            case hfw => kernel_rfl
            case deps => kernel_rfl
            case hforced => kernel_rfl
            case hf => kernel_rfl
            case oks =>
              intro F hF
              simp only [List.mem_cons, List.not_mem_nil, or_false] at hF
              rcases hF with rfl | rfl | rfl | rfl | rfl | rfl | rfl | rfl | rfl | rfl | rfl | rfl | rfl | rfl | rfl | rfl | rfl | rfl | rfl | rfl | rfl | rfl | rfl
              all_goals trivial
            case steps =>
              refine Steps.cons ?_ ?_
              · intro _
                refine FreeStep.val [] _ rfl rfl fun u β W hW hn fr hfr K hK => ?_
                simp only [frameL, putL, Act.put, List.setIfInBounds_toArray, List.set_cons_zero, List.set_cons_succ, Nat.zero_add, Nat.reduceAdd] at hfr
                subst hfr
                have HK := Lib.hid hK
                clear hK hn
                go_simp
                exact HK.out
              refine Steps.cons ?_ ?_
              · intro _
                refine FreeStep.val [] _ rfl rfl fun u β W hW hn fr hfr K hK => ?_
                simp only [frameL, putL, Act.put, List.setIfInBounds_toArray, List.set_cons_zero, List.set_cons_succ, Nat.zero_add, Nat.reduceAdd] at hfr
                subst hfr
                have HK := Lib.hid hK
                clear hK hn
                go_simp
                exact HK.out
              refine Steps.cons ?_ ?_
              · intro _
                refine FreeStep.val [] _ rfl rfl fun u β W hW hn fr hfr K hK => ?_
                simp only [frameL, putL, Act.put, List.setIfInBounds_toArray, List.set_cons_zero, List.set_cons_succ, Nat.zero_add, Nat.reduceAdd] at hfr
                subst hfr
                have HK := Lib.hid hK
                clear hK hn
                go_simp
                exact HK.out
              refine Steps.cons ?_ ?_
              · intro _
                refine FreeStep.val [] _ rfl rfl fun u β W hW hn fr hfr K hK => ?_
                simp only [frameL, putL, Act.put, List.setIfInBounds_toArray, List.set_cons_zero, List.set_cons_succ, Nat.zero_add, Nat.reduceAdd] at hfr
                subst hfr
                have HK := Lib.hid hK
                clear hK hn
                go_simp
                exact HK.out
              refine Steps.cons ?_ ?_
              · intro _
                refine FreeStep.val [] _ rfl rfl fun u β W hW hn fr hfr K hK => ?_
                simp only [frameL, putL, Act.put, List.setIfInBounds_toArray, List.set_cons_zero, List.set_cons_succ, Nat.zero_add, Nat.reduceAdd] at hfr
                subst hfr
                have e3 : u 3 = .int .i64 (n : Int) := Have.get (k := 3) hn rfl
                simp only [e3] at hK
                have hwr : IntKind.i64.wrap ((n : Int) - 1) = ((n - 1 : Nat) : Int) := by rw [wrap_ways (by omega)]; omega
                have HK := Lib.hid hK
                clear hK hn
                go_simp
                exact HK.out
              refine Steps.cons ?_ ?_
              · intro _
                refine FreeStep.val [] _ rfl rfl fun u β W hW hn fr hfr K hK => ?_
                simp only [frameL, putL, Act.put, List.setIfInBounds_toArray, List.set_cons_zero, List.set_cons_succ, Nat.zero_add, Nat.reduceAdd] at hfr
                subst hfr
                have e2 : u 2 = .slice (some ⟨go, 0, none⟩) n ko := Have.get (k := 2) hn rfl
                have e4 : u 4 = .int .i64 ((n - 1 : Nat) : Int) := Have.get (k := 4) hn rfl
                simp only [e2, e4] at hK
                have hin_ : ((n - 1 : Nat) : Int) < (n : Int) := by omega
                have HK := Lib.hid hK
                clear hK hn
                go_simp
                try rw [if_pos hin_]
                try go_simp
                exact HK.out
              refine Steps.cons ?_ ?_
              · intro _
                refine FreeStep.val [] _ rfl rfl fun u β W hW hn fr hfr K hK => ?_
                simp only [frameL, putL, Act.put, List.setIfInBounds_toArray, List.set_cons_zero, List.set_cons_succ, Nat.zero_add, Nat.reduceAdd] at hfr
                subst hfr
                have e5 : u 5 = .pointer (some ⟨go, n - 1, none⟩) := Have.get (k := 5) hn rfl
                simp only [e5] at hK
                have c1 : W.cell? ⟨go, n - 1, none⟩ = some (.slice (some ⟨gq, 0, none⟩) (L + 2) kq) := cell_later3 HQ.out.1 hW
                have HK := Lib.hid hK
                clear hK hn
                go_simp
                exact HK.out
              refine Steps.cons ?_ ?_
              · intro _
                refine FreeStep.val [] _ rfl rfl fun u β W hW hn fr hfr K hK => ?_
                simp only [frameL, putL, Act.put, List.setIfInBounds_toArray, List.set_cons_zero, List.set_cons_succ, Nat.zero_add, Nat.reduceAdd] at hfr
                subst hfr
                have HK := Lib.hid hK
                clear hK hn
                go_simp
                exact HK.out
              refine Steps.cons ?_ ?_
              · intro _
                refine FreeStep.val [] _ rfl rfl fun u β W hW hn fr hfr K hK => ?_
                simp only [frameL, putL, Act.put, List.setIfInBounds_toArray, List.set_cons_zero, List.set_cons_succ, Nat.zero_add, Nat.reduceAdd] at hfr
                subst hfr
                have e6 : u 6 = .slice (some ⟨gq, 0, none⟩) (L + 2) kq := Have.get (k := 6) hn rfl
                have e7 : u 7 = .int .i64 (d : Int) := Have.get (k := 7) hn rfl
                simp only [e6, e7] at hK
                have hin_ : (d : Int) < (L : Int) + 2 := by omega
                have HK := Lib.hid hK
                clear hK hn
                go_simp
                try rw [if_pos hin_]
                try go_simp
                exact HK.out
              refine Steps.cons ?_ ?_
              · intro _
                refine FreeStep.val [] _ rfl rfl fun u β W hW hn fr hfr K hK => ?_
                simp only [frameL, putL, Act.put, List.setIfInBounds_toArray, List.set_cons_zero, List.set_cons_succ, Nat.zero_add, Nat.reduceAdd] at hfr
                subst hfr
                have e8 : u 8 = .pointer (some ⟨gq, d, none⟩) := Have.get (k := 8) hn rfl
                simp only [e8] at hK
                have c1 : W.cell? ⟨gq, d, none⟩ = some (.int .i64 ((wy (n - 1) (d) : Int))) := IntsE.cell' ((ints_ok _).later HQ.out.2 hW) (wRow_at (by omega))
                have HK := Lib.hid hK
                clear hK hn
                go_simp
                exact HK.out
              refine Steps.cons ?_ ?_
              · intro _
                refine FreeStep.val [] _ rfl rfl fun u β W hW hn fr hfr K hK => ?_
                simp only [frameL, putL, Act.put, List.setIfInBounds_toArray, List.set_cons_zero, List.set_cons_succ, Nat.zero_add, Nat.reduceAdd] at hfr
                subst hfr
                have e9 : u 9 = .int .i64 ((wy (n - 1) (d) : Int)) := Have.get (k := 9) hn rfl
                simp only [e9] at hK
                have t1 := wy_top (n := n - 1) (by omega) ((d))
                have hwr : IntKind.i64.wrap (2 * (wy (n - 1) (d) : Int)) = 2 * (wy (n - 1) (d) : Int) := wrap_ways (by omega)
                have HK := Lib.hid hK
                clear hK hn
                go_simp
                exact HK.out
              refine Steps.cons ?_ ?_
              · intro _
                refine FreeStep.val [] _ rfl rfl fun u β W hW hn fr hfr K hK => ?_
                simp only [frameL, putL, Act.put, List.setIfInBounds_toArray, List.set_cons_zero, List.set_cons_succ, Nat.zero_add, Nat.reduceAdd] at hfr
                subst hfr
                have HK := Lib.hid hK
                clear hK hn
                go_simp
                exact HK.out
              refine Steps.cons ?_ ?_
              · intro _
                refine FreeStep.val [] _ rfl rfl fun u β W hW hn fr hfr K hK => ?_
                simp only [frameL, putL, Act.put, List.setIfInBounds_toArray, List.set_cons_zero, List.set_cons_succ, Nat.zero_add, Nat.reduceAdd] at hfr
                subst hfr
                have HK := Lib.hid hK
                clear hK hn
                go_simp
                exact HK.out
              refine Steps.cons ?_ ?_
              · intro _
                refine FreeStep.val [] _ rfl rfl fun u β W hW hn fr hfr K hK => ?_
                simp only [frameL, putL, Act.put, List.setIfInBounds_toArray, List.set_cons_zero, List.set_cons_succ, Nat.zero_add, Nat.reduceAdd] at hfr
                subst hfr
                have e12 : u 12 = .int .i64 (n : Int) := Have.get (k := 12) hn rfl
                simp only [e12] at hK
                have hwr : IntKind.i64.wrap ((n : Int) - 1) = ((n - 1 : Nat) : Int) := by rw [wrap_ways (by omega)]; omega
                have HK := Lib.hid hK
                clear hK hn
                go_simp
                exact HK.out
              refine Steps.cons ?_ ?_
              · intro _
                refine FreeStep.val [] _ rfl rfl fun u β W hW hn fr hfr K hK => ?_
                simp only [frameL, putL, Act.put, List.setIfInBounds_toArray, List.set_cons_zero, List.set_cons_succ, Nat.zero_add, Nat.reduceAdd] at hfr
                subst hfr
                have e11 : u 11 = .slice (some ⟨go, 0, none⟩) n ko := Have.get (k := 11) hn rfl
                have e13 : u 13 = .int .i64 ((n - 1 : Nat) : Int) := Have.get (k := 13) hn rfl
                simp only [e11, e13] at hK
                have hin_ : ((n - 1 : Nat) : Int) < (n : Int) := by omega
                have HK := Lib.hid hK
                clear hK hn
                go_simp
                try rw [if_pos hin_]
                try go_simp
                exact HK.out
              refine Steps.cons ?_ ?_
              · intro _
                refine FreeStep.val [] _ rfl rfl fun u β W hW hn fr hfr K hK => ?_
                simp only [frameL, putL, Act.put, List.setIfInBounds_toArray, List.set_cons_zero, List.set_cons_succ, Nat.zero_add, Nat.reduceAdd] at hfr
                subst hfr
                have e14 : u 14 = .pointer (some ⟨go, n - 1, none⟩) := Have.get (k := 14) hn rfl
                simp only [e14] at hK
                have c1 : W.cell? ⟨go, n - 1, none⟩ = some (.slice (some ⟨gq, 0, none⟩) (L + 2) kq) := cell_later3 HQ.out.1 hW
                have HK := Lib.hid hK
                clear hK hn
                go_simp
                exact HK.out
              refine Steps.cons ?_ ?_
              · intro _
                refine FreeStep.val [] _ rfl rfl fun u β W hW hn fr hfr K hK => ?_
                simp only [frameL, putL, Act.put, List.setIfInBounds_toArray, List.set_cons_zero, List.set_cons_succ, Nat.zero_add, Nat.reduceAdd] at hfr
                subst hfr
                have HK := Lib.hid hK
                clear hK hn
                go_simp
                exact HK.out
              refine Steps.cons ?_ ?_
              · intro _
                refine FreeStep.val [] _ rfl rfl fun u β W hW hn fr hfr K hK => ?_
                simp only [frameL, putL, Act.put, List.setIfInBounds_toArray, List.set_cons_zero, List.set_cons_succ, Nat.zero_add, Nat.reduceAdd] at hfr
                subst hfr
                have e16 : u 16 = .int .i64 (d : Int) := Have.get (k := 16) hn rfl
                simp only [e16] at hK
                have hwr : IntKind.i64.wrap ((d : Int) + 1) = ((d + 1 : Nat) : Int) := by rw [wrap_ways (by omega)]; omega
                have HK := Lib.hid hK
                clear hK hn
                go_simp
                exact HK.out
              refine Steps.cons ?_ ?_
              · intro _
                refine FreeStep.val [] _ rfl rfl fun u β W hW hn fr hfr K hK => ?_
                simp only [frameL, putL, Act.put, List.setIfInBounds_toArray, List.set_cons_zero, List.set_cons_succ, Nat.zero_add, Nat.reduceAdd] at hfr
                subst hfr
                have e15 : u 15 = .slice (some ⟨gq, 0, none⟩) (L + 2) kq := Have.get (k := 15) hn rfl
                have e17 : u 17 = .int .i64 ((d + 1 : Nat) : Int) := Have.get (k := 17) hn rfl
                simp only [e15, e17] at hK
                have HK := Lib.hid hK
                clear hK hn
                go_simp
                rw [if_pos (show 0 ≤ (d : Int) + 1 ∧ (d : Int) + 1 < (L : Int) + 2 by omega)]
                go_simp
                exact HK.out
              refine Steps.cons ?_ ?_
              · intro _
                refine FreeStep.val [] _ rfl rfl fun u β W hW hn fr hfr K hK => ?_
                simp only [frameL, putL, Act.put, List.setIfInBounds_toArray, List.set_cons_zero, List.set_cons_succ, Nat.zero_add, Nat.reduceAdd] at hfr
                subst hfr
                have e18 : u 18 = .pointer (some ⟨gq, d + 1, none⟩) := Have.get (k := 18) hn rfl
                simp only [e18] at hK
                have c1 : W.cell? ⟨gq, d + 1, none⟩ = some (.int .i64 ((wy (n - 1) (d + 1) : Int))) := IntsE.cell' ((ints_ok _).later HQ.out.2 hW) (wRow_at (by omega))
                have HK := Lib.hid hK
                clear hK hn
                go_simp
                exact HK.out
              refine Steps.cons ?_ ?_
              · intro _
                refine FreeStep.val [] _ rfl rfl fun u β W hW hn fr hfr K hK => ?_
                simp only [frameL, putL, Act.put, List.setIfInBounds_toArray, List.set_cons_zero, List.set_cons_succ, Nat.zero_add, Nat.reduceAdd] at hfr
                subst hfr
                have e19 : u 19 = .int .i64 ((wy (n - 1) (d + 1) : Int)) := Have.get (k := 19) hn rfl
                simp only [e19] at hK
                have t1 := wy_top (n := n - 1) (by omega) ((d + 1))
                have hwr : IntKind.i64.wrap (2 * (wy (n - 1) (d + 1) : Int)) = 2 * (wy (n - 1) (d + 1) : Int) := wrap_ways (by omega)
                have HK := Lib.hid hK
                clear hK hn
                go_simp
                exact HK.out
              refine Steps.cons ?_ ?_
              · intro _
                refine FreeStep.val [] _ rfl rfl fun u β W hW hn fr hfr K hK => ?_
                simp only [frameL, putL, Act.put, List.setIfInBounds_toArray, List.set_cons_zero, List.set_cons_succ, Nat.zero_add, Nat.reduceAdd] at hfr
                subst hfr
                have e10 : u 10 = .int .i64 (2 * (wy (n - 1) (d) : Int)) := Have.get (k := 10) hn rfl
                have e20 : u 20 = .int .i64 (2 * (wy (n - 1) (d + 1) : Int)) := Have.get (k := 20) hn rfl
                simp only [e10, e20] at hK
                have t1 := wy_top (n := n - 1) (by omega) (d)
                have t2 := wy_top (n := n - 1) (by omega) (d + 1)
                have hwr : IntKind.i64.wrap (2 * (wy (n - 1) (d) : Int) + 2 * (wy (n - 1) (d + 1) : Int)) = 2 * (wy (n - 1) (d) : Int) + 2 * (wy (n - 1) (d + 1) : Int) := wrap_ways (by omega)
                have HK := Lib.hid hK
                clear hK hn
                go_simp
                exact HK.out
              refine Steps.cons ?_ ?_
              · intro _
                refine FreeStep.val [] _ rfl rfl fun u β W hW hn fr hfr K hK => ?_
                simp only [frameL, putL, Act.put, List.setIfInBounds_toArray, List.set_cons_zero, List.set_cons_succ, Nat.zero_add, Nat.reduceAdd] at hfr
                subst hfr
                have e0 : u 0 = .slice (some ⟨Wo.heap.size, 0, none⟩) (L + 2) (L + 2) := Have.get (k := 0) hn rfl
                have e1 : u 1 = .int .i64 (d : Int) := Have.get (k := 1) hn rfl
                simp only [e0, e1] at hK
                have hin_ : (d : Int) < (L : Int) + 2 := by omega
                have HK := Lib.hid hK
                clear hK hn
                go_simp
                try rw [if_pos hin_]
                try go_simp
                exact HK.out
              exact ⟨fun h => absurd h (by decide), trivial⟩
            case tail =>
              intro u β W hW hn hdis hbnd fr hfr
              simp only [frameL, putL, Act.put, List.setIfInBounds_toArray, List.set_cons_zero, List.set_cons_succ, Nat.zero_add, Nat.reduceAdd] at hfr
              subst hfr
              have e21 : u 21 = .int .i64 (2 * (wy (n - 1) (d) : Int) + 2 * (wy (n - 1) (d + 1) : Int)) := Have.get (k := 21) hn rfl
              have e22 : u 22 = .pointer (some ⟨Wo.heap.size, d, none⟩) := Have.get (k := 22) hn rfl
              have hX := HX.out.later hW
              have c1 : W.cell? ⟨Wo.heap.size, d, none⟩ = some (.int .i64 0) := IntsE.cell' hX.row (wRowT_here (by omega) (by omega))
              have q1 := RowE.frozen hX.row d
              have hp := hX.put (2 * (wy (n - 1) (d) : Int) + 2 * (wy (n - 1) (d + 1) : Int))
              have HP := Lib.hid (And.intro hX.apart hp)
              have hQ1 := cell_later3 HQ.out.1 hW
              have hQ2 := (ints_ok _).later HQ.out.2 hW
              have HQ2 := Lib.hid (And.intro hQ1 hQ2)
              clear hX hp hn hdis hbnd hQ1 hQ2
              show wpOps _ _ _ [23] _ _
              rw [wpOps_cons]
              refine wpOp_step rfl (fun K hK => ?_)
              go_simp
              refine hK _ _ ?_
              clear hK
              unfold wpOps
              generalize u 0 = s0
              generalize u 1 = s1
              generalize u 2 = s2
              generalize u 3 = s3
              generalize u 4 = s4
              generalize u 5 = s5
              generalize u 6 = s6
              generalize u 7 = s7
              generalize u 8 = s8
              generalize u 9 = s9
              generalize u 10 = s10
              generalize u 11 = s11
              generalize u 12 = s12
              generalize u 13 = s13
              generalize u 14 = s14
              generalize u 15 = s15
              generalize u 16 = s16
              generalize u 17 = s17
              generalize u 18 = s18
              generalize u 19 = s19
              generalize u 20 = s20
              generalize u 21 = s21
              generalize u 22 = s22
              obtain ⟨X, hX⟩ : ∃ X, X = W.setCell ⟨Wo.heap.size, d, none⟩ (.int .i64 (2 * (wy (n - 1) (d) : Int) + 2 * (wy (n - 1) (d + 1) : Int))) := ⟨_, rfl⟩
              rw [← hX] at HP ⊢
              have hW2 : X.cell? ⟨go, n - 1, none⟩ = some (.slice (some ⟨gq, 0, none⟩) (L + 2) kq) ∧ IntsE w.heap.size X (.slice (some ⟨gq, 0, none⟩) (L + 2) kq) (wRow L (n - 1)) bq := by
                rw [hX]
                exact ⟨(World.cell?_setCell_other _ _ _ _ (fun e => HD.out.1 (congrArg Addr.block e))).trans HQ2.out.1, (ints_ok _).off HQ2.out.2 (setCell_turned _ _ _ _) (fun b hb hm => HD.out.2 (by rw [← List.mem_singleton.1 hm]; exact hb))⟩
              have HQ3 := Lib.hid hW2
              clear hX hW2 HQ2 HQ c1 q1
              rcases Nat.eq_zero_or_pos d with hd0 | hdp
              · subst hd0
                have hfin : (wRowT L n 0).set 0 (2 * (wy (n - 1) (0) : Int) + 2 * (wy (n - 1) (0 + 1) : Int)) = wRowT L n 1 := wRowT_set (by omega) (by obtain ⟨k, rfl⟩ : ∃ k, n = k + 1 := ⟨n - 1, by omega⟩; simp [wy]; omega)
                have HF : WayW w L n 1 (.slice (some ⟨go, 0, none⟩) n ko) Wo.heap.size (L + 2) bs X := ⟨HP.out.2.2.1, by rw [← hfin]; exact HP.out.2.1, HP.out.1, HP.out.2.2.2⟩
                have HF := Lib.hid HF
                clear hfin HP HQ3
                go_wp2
                go_roundw
                case rel => exact ⟨1, by omega, by first | rfl | go_num, HF.out⟩
                case measure => simp [intOf]
              · go_wp2_with fail
                have hsz3 := HP.out.2.2.2.size
                go_upto_region 13 with fail
                refine wp_region_free_seq (by kernel_rfl) [
                    .val [] (fun _ => .slice (some ⟨Wo.heap.size, 0, none⟩) (L + 2) (L + 2)),
                    .val [] (fun _ => .int .i64 (d : Int)),
                    .val [] (fun _ => .pointer (some ⟨Wo.heap.size, d, none⟩)),
                    .val [] (fun _ => .int .i64 (2 * (wy (n - 1) (d) : Int) + 2 * (wy (n - 1) (d + 1) : Int))),
                    .val [] (fun _ => .slice (some ⟨go, 0, none⟩) n ko),
                    .val [] (fun _ => .int .i64 (n : Int)),
                    .val [] (fun _ => .int .i64 ((n - 1 : Nat) : Int)),
                    .val [] (fun _ => .pointer (some ⟨go, n - 1, none⟩)),
                    .val [] (fun _ => .slice (some ⟨gq, 0, none⟩) (L + 2) kq),
                    .val [] (fun _ => .int .i64 (d : Int)),
                    .val [] (fun _ => .int .i64 ((d - 1 : Nat) : Int)),
                    .val [] (fun _ => .pointer (some ⟨gq, d - 1, none⟩)),
                    .val [] (fun _ => .int .i64 ((wy (n - 1) (d - 1) : Int))),
                    .val [] (fun _ => .int .i64 (2 * (wy (n - 1) (d - 1) : Int))),
                    .val [] (fun _ => .int .i64 (2 * (wy (n - 1) (d) : Int) + 2 * (wy (n - 1) (d + 1) : Int) + 2 * (wy (n - 1) (d - 1) : Int))),
                    .val [] (fun _ => .pointer (some ⟨Wo.heap.size, d, none⟩))] 16 ?hp ?hfw ?deps ?oks ?hforced ?hf ?steps ?tail
                case hp => kernel_rfl
                case hfw => kernel_rfl
                case deps => kernel_rfl
                case hforced => kernel_rfl
                case hf => kernel_rfl
                case oks =>
                  intro F hF
                  simp only [List.mem_cons, List.not_mem_nil, or_false] at hF
                  rcases hF with rfl | rfl | rfl | rfl | rfl | rfl | rfl | rfl | rfl | rfl | rfl | rfl | rfl | rfl | rfl | rfl
                  all_goals trivial
                case steps =>
                  refine Steps.cons ?_ ?_
                  · intro _
                    refine FreeStep.val [] _ rfl rfl fun u β W2 hW hn fr hfr K hK => ?_
                    simp only [frameL, putL, Act.put, List.setIfInBounds_toArray, List.set_cons_zero, List.set_cons_succ, Nat.zero_add, Nat.reduceAdd] at hfr
                    subst hfr
                    have HK := Lib.hid hK
                    clear hK hn
                    go_simp
                    exact HK.out
                  refine Steps.cons ?_ ?_
                  · intro _
                    refine FreeStep.val [] _ rfl rfl fun u β W2 hW hn fr hfr K hK => ?_
                    simp only [frameL, putL, Act.put, List.setIfInBounds_toArray, List.set_cons_zero, List.set_cons_succ, Nat.zero_add, Nat.reduceAdd] at hfr
                    subst hfr
                    have HK := Lib.hid hK
                    clear hK hn
                    go_simp
                    exact HK.out
                  refine Steps.cons ?_ ?_
                  · intro _
                    refine FreeStep.val [] _ rfl rfl fun u β W2 hW hn fr hfr K hK => ?_
                    simp only [frameL, putL, Act.put, List.setIfInBounds_toArray, List.set_cons_zero, List.set_cons_succ, Nat.zero_add, Nat.reduceAdd] at hfr
                    subst hfr
                    have e0 : u 0 = .slice (some ⟨Wo.heap.size, 0, none⟩) (L + 2) (L + 2) := Have.get (k := 0) hn rfl
                    have e1 : u 1 = .int .i64 (d : Int) := Have.get (k := 1) hn rfl
                    simp only [e0, e1] at hK
                    have hin_ : (d : Int) < (L : Int) + 2 := by omega
                    have HK := Lib.hid hK
                    clear hK hn
                    go_simp
                    try rw [if_pos hin_]
                    try go_simp
                    exact HK.out
                  refine Steps.cons ?_ ?_
                  · intro _
                    refine FreeStep.val [] _ rfl rfl fun u β W2 hW hn fr hfr K hK => ?_
                    simp only [frameL, putL, Act.put, List.setIfInBounds_toArray, List.set_cons_zero, List.set_cons_succ, Nat.zero_add, Nat.reduceAdd] at hfr
                    subst hfr
                    have e2 : u 2 = .pointer (some ⟨Wo.heap.size, d, none⟩) := Have.get (k := 2) hn rfl
                    simp only [e2] at hK
                    have c1 : W2.cell? ⟨Wo.heap.size, d, none⟩ = some (.int .i64 (2 * (wy (n - 1) (d) : Int) + 2 * (wy (n - 1) (d + 1) : Int))) := IntsE.cell' ((ints_ok _).later HP.out.2.1 hW) (List.getElem?_set_self (by rw [wRowT_len]; omega))
                    have HK := Lib.hid hK
                    clear hK hn
                    go_simp
                    exact HK.out
                  refine Steps.cons ?_ ?_
                  · intro _
                    refine FreeStep.val [] _ rfl rfl fun u β W2 hW hn fr hfr K hK => ?_
                    simp only [frameL, putL, Act.put, List.setIfInBounds_toArray, List.set_cons_zero, List.set_cons_succ, Nat.zero_add, Nat.reduceAdd] at hfr
                    subst hfr
                    have HK := Lib.hid hK
                    clear hK hn
                    go_simp
                    exact HK.out
                  refine Steps.cons ?_ ?_
                  · intro _
                    refine FreeStep.val [] _ rfl rfl fun u β W2 hW hn fr hfr K hK => ?_
                    simp only [frameL, putL, Act.put, List.setIfInBounds_toArray, List.set_cons_zero, List.set_cons_succ, Nat.zero_add, Nat.reduceAdd] at hfr
                    subst hfr
                    have HK := Lib.hid hK
                    clear hK hn
                    go_simp
                    exact HK.out
                  refine Steps.cons ?_ ?_
                  · intro _
                    refine FreeStep.val [] _ rfl rfl fun u β W2 hW hn fr hfr K hK => ?_
                    simp only [frameL, putL, Act.put, List.setIfInBounds_toArray, List.set_cons_zero, List.set_cons_succ, Nat.zero_add, Nat.reduceAdd] at hfr
                    subst hfr
                    have e5 : u 5 = .int .i64 (n : Int) := Have.get (k := 5) hn rfl
                    simp only [e5] at hK
                    have hwr : IntKind.i64.wrap ((n : Int) - 1) = ((n - 1 : Nat) : Int) := by rw [wrap_ways (by omega)]; omega
                    have HK := Lib.hid hK
                    clear hK hn
                    go_simp
                    exact HK.out
                  refine Steps.cons ?_ ?_
                  · intro _
                    refine FreeStep.val [] _ rfl rfl fun u β W2 hW hn fr hfr K hK => ?_
                    simp only [frameL, putL, Act.put, List.setIfInBounds_toArray, List.set_cons_zero, List.set_cons_succ, Nat.zero_add, Nat.reduceAdd] at hfr
                    subst hfr
                    have e4 : u 4 = .slice (some ⟨go, 0, none⟩) n ko := Have.get (k := 4) hn rfl
                    have e6 : u 6 = .int .i64 ((n - 1 : Nat) : Int) := Have.get (k := 6) hn rfl
                    simp only [e4, e6] at hK
                    have hin_ : ((n - 1 : Nat) : Int) < (n : Int) := by omega
                    have HK := Lib.hid hK
                    clear hK hn
                    go_simp
                    try rw [if_pos hin_]
                    try go_simp
                    exact HK.out
                  refine Steps.cons ?_ ?_
                  · intro _
                    refine FreeStep.val [] _ rfl rfl fun u β W2 hW hn fr hfr K hK => ?_
                    simp only [frameL, putL, Act.put, List.setIfInBounds_toArray, List.set_cons_zero, List.set_cons_succ, Nat.zero_add, Nat.reduceAdd] at hfr
                    subst hfr
                    have e7 : u 7 = .pointer (some ⟨go, n - 1, none⟩) := Have.get (k := 7) hn rfl
                    simp only [e7] at hK
                    have c1 : W2.cell? ⟨go, n - 1, none⟩ = some (.slice (some ⟨gq, 0, none⟩) (L + 2) kq) := cell_later3 HQ3.out.1 hW
                    have HK := Lib.hid hK
                    clear hK hn
                    go_simp
                    exact HK.out
                  refine Steps.cons ?_ ?_
                  · intro _
                    refine FreeStep.val [] _ rfl rfl fun u β W2 hW hn fr hfr K hK => ?_
                    simp only [frameL, putL, Act.put, List.setIfInBounds_toArray, List.set_cons_zero, List.set_cons_succ, Nat.zero_add, Nat.reduceAdd] at hfr
                    subst hfr
                    have HK := Lib.hid hK
                    clear hK hn
                    go_simp
                    exact HK.out
                  refine Steps.cons ?_ ?_
                  · intro _
                    refine FreeStep.val [] _ rfl rfl fun u β W2 hW hn fr hfr K hK => ?_
                    simp only [frameL, putL, Act.put, List.setIfInBounds_toArray, List.set_cons_zero, List.set_cons_succ, Nat.zero_add, Nat.reduceAdd] at hfr
                    subst hfr
                    have e9 : u 9 = .int .i64 (d : Int) := Have.get (k := 9) hn rfl
                    simp only [e9] at hK
                    have hwr : IntKind.i64.wrap ((d : Int) - 1) = ((d - 1 : Nat) : Int) := by rw [wrap_ways (by omega)]; omega
                    have HK := Lib.hid hK
                    clear hK hn
                    go_simp
                    exact HK.out
                  refine Steps.cons ?_ ?_
                  · intro _
                    refine FreeStep.val [] _ rfl rfl fun u β W2 hW hn fr hfr K hK => ?_
                    simp only [frameL, putL, Act.put, List.setIfInBounds_toArray, List.set_cons_zero, List.set_cons_succ, Nat.zero_add, Nat.reduceAdd] at hfr
                    subst hfr
                    have e8 : u 8 = .slice (some ⟨gq, 0, none⟩) (L + 2) kq := Have.get (k := 8) hn rfl
                    have e10 : u 10 = .int .i64 ((d - 1 : Nat) : Int) := Have.get (k := 10) hn rfl
                    simp only [e8, e10] at hK
                    have hin_ : ((d - 1 : Nat) : Int) < (L : Int) + 2 := by omega
                    have HK := Lib.hid hK
                    clear hK hn
                    go_simp
                    try rw [if_pos hin_]
                    try go_simp
                    exact HK.out
                  refine Steps.cons ?_ ?_
                  · intro _
                    refine FreeStep.val [] _ rfl rfl fun u β W2 hW hn fr hfr K hK => ?_
                    simp only [frameL, putL, Act.put, List.setIfInBounds_toArray, List.set_cons_zero, List.set_cons_succ, Nat.zero_add, Nat.reduceAdd] at hfr
                    subst hfr
                    have e11 : u 11 = .pointer (some ⟨gq, d - 1, none⟩) := Have.get (k := 11) hn rfl
                    simp only [e11] at hK
                    have c1 : W2.cell? ⟨gq, d - 1, none⟩ = some (.int .i64 ((wy (n - 1) (d - 1) : Int))) := IntsE.cell' ((ints_ok _).later HQ3.out.2 hW) (wRow_at (by omega))
                    have HK := Lib.hid hK
                    clear hK hn
                    go_simp
                    exact HK.out
                  refine Steps.cons ?_ ?_
                  · intro _
                    refine FreeStep.val [] _ rfl rfl fun u β W2 hW hn fr hfr K hK => ?_
                    simp only [frameL, putL, Act.put, List.setIfInBounds_toArray, List.set_cons_zero, List.set_cons_succ, Nat.zero_add, Nat.reduceAdd] at hfr
                    subst hfr
                    have e12 : u 12 = .int .i64 ((wy (n - 1) (d - 1) : Int)) := Have.get (k := 12) hn rfl
                    simp only [e12] at hK
                    have t1 := wy_top (n := n - 1) (by omega) ((d - 1))
                    have hwr : IntKind.i64.wrap (2 * (wy (n - 1) (d - 1) : Int)) = 2 * (wy (n - 1) (d - 1) : Int) := wrap_ways (by omega)
                    have HK := Lib.hid hK
                    clear hK hn
                    go_simp
                    exact HK.out
                  refine Steps.cons ?_ ?_
                  · intro _
                    refine FreeStep.val [] _ rfl rfl fun u β W2 hW hn fr hfr K hK => ?_
                    simp only [frameL, putL, Act.put, List.setIfInBounds_toArray, List.set_cons_zero, List.set_cons_succ, Nat.zero_add, Nat.reduceAdd] at hfr
                    subst hfr
                    have e3 : u 3 = .int .i64 (2 * (wy (n - 1) (d) : Int) + 2 * (wy (n - 1) (d + 1) : Int)) := Have.get (k := 3) hn rfl
                    have e13 : u 13 = .int .i64 (2 * (wy (n - 1) (d - 1) : Int)) := Have.get (k := 13) hn rfl
                    simp only [e3, e13] at hK
                    have t1 := wy_top (n := n - 1) (by omega) (d)
                    have t2 := wy_top (n := n - 1) (by omega) (d + 1)
                    have t3 := wy_top (n := n - 1) (by omega) (d - 1)
                    have hwr : IntKind.i64.wrap (2 * (wy (n - 1) (d) : Int) + 2 * (wy (n - 1) (d + 1) : Int) + 2 * (wy (n - 1) (d - 1) : Int)) = 2 * (wy (n - 1) (d) : Int) + 2 * (wy (n - 1) (d + 1) : Int) + 2 * (wy (n - 1) (d - 1) : Int) := wrap_ways (by omega)
                    have HK := Lib.hid hK
                    clear hK hn
                    go_simp
                    exact HK.out
                  refine Steps.cons ?_ ?_
                  · intro _
                    refine FreeStep.val [] _ rfl rfl fun u β W2 hW hn fr hfr K hK => ?_
                    simp only [frameL, putL, Act.put, List.setIfInBounds_toArray, List.set_cons_zero, List.set_cons_succ, Nat.zero_add, Nat.reduceAdd] at hfr
                    subst hfr
                    have e0 : u 0 = .slice (some ⟨Wo.heap.size, 0, none⟩) (L + 2) (L + 2) := Have.get (k := 0) hn rfl
                    have e1 : u 1 = .int .i64 (d : Int) := Have.get (k := 1) hn rfl
                    simp only [e0, e1] at hK
                    have hin_ : (d : Int) < (L : Int) + 2 := by omega
                    have HK := Lib.hid hK
                    clear hK hn
                    go_simp
                    try rw [if_pos hin_]
                    try go_simp
                    exact HK.out
                  exact ⟨fun h => absurd h (by decide), trivial⟩
                case tail =>
                  intro u β W2 hW hn hdis hbnd fr hfr
                  simp only [frameL, putL, Act.put, List.setIfInBounds_toArray, List.set_cons_zero, List.set_cons_succ, Nat.zero_add, Nat.reduceAdd] at hfr
                  subst hfr
                  have e14 : u 14 = .int .i64 (2 * (wy (n - 1) (d) : Int) + 2 * (wy (n - 1) (d + 1) : Int) + 2 * (wy (n - 1) (d - 1) : Int)) := Have.get (k := 14) hn rfl
                  have e15 : u 15 = .pointer (some ⟨Wo.heap.size, d, none⟩) := Have.get (k := 15) hn rfl
                  have hr2 := (ints_ok _).later HP.out.2.1 hW
                  have c1 : W2.cell? ⟨Wo.heap.size, d, none⟩ = some (.int .i64 (2 * (wy (n - 1) (d) : Int) + 2 * (wy (n - 1) (d + 1) : Int))) := IntsE.cell' hr2 (List.getElem?_set_self (by rw [wRowT_len]; omega))
                  have q1 := RowE.frozen hr2 d
                  have hp2 := RowE.put1 (f := fun x => Value.int .i64 x) hr2 d (2 * (wy (n - 1) (d) : Int) + 2 * (wy (n - 1) (d + 1) : Int) + 2 * (wy (n - 1) (d - 1) : Int))
                  rw [List.set_set] at hp2
                  have ho2 := (ints2_ok _).off ((ints2_ok _).later HP.out.2.2.1 hW) hp2.2 (fun b hb hm => HP.out.1 (by rw [← List.mem_singleton.1 hm]; exact hb))
                  have hB2 := hp2.2.below (HP.out.2.2.2.trans (hW.mono HP.out.2.2.2.size)) (HP.out.2.2.2.trans (hW.mono HP.out.2.2.2.size)).size (fun b hb => by rw [List.mem_singleton.1 hb]; exact hs0)
                  have hfin : (wRowT L n d).set d (2 * (wy (n - 1) (d) : Int) + 2 * (wy (n - 1) (d + 1) : Int) + 2 * (wy (n - 1) (d - 1) : Int)) = wRowT L n (d + 1) := wRowT_set (by omega) (by obtain ⟨k, rfl⟩ : ∃ k, n = k + 1 := ⟨n - 1, by omega⟩; simp only [wy, Nat.add_sub_cancel]; rw [if_neg (by omega)]; push_cast; omega)
                  rw [hfin] at hp2
                  have HF := Lib.hid (show WayW w L n (d + 1) (.slice (some ⟨go, 0, none⟩) n ko) Wo.heap.size (L + 2) bs _ from ⟨ho2, hp2.1, HP.out.1, hB2⟩)
                  clear hr2 hp2 ho2 hB2 hfin HP HQ3 hn hdis hbnd
                  show wpOps _ _ _ [16] _ _
                  rw [wpOps_cons]
                  refine wpOp_step rfl (fun K hK => ?_)
                  go_simp
                  refine hK _ _ ?_
                  clear hK
                  unfold wpOps
                  generalize u 0 = z0
                  generalize u 1 = z1
                  generalize u 2 = z2
                  generalize u 3 = z3
                  generalize u 4 = z4
                  generalize u 5 = z5
                  generalize u 6 = z6
                  generalize u 7 = z7
                  generalize u 8 = z8
                  generalize u 9 = z9
                  generalize u 10 = z10
                  generalize u 11 = z11
                  generalize u 12 = z12
                  generalize u 13 = z13
                  generalize u 14 = z14
                  generalize u 15 = z15
                  obtain ⟨Y, hY⟩ : ∃ Y, Y = W2.setCell ⟨Wo.heap.size, d, none⟩ (.int .i64 (2 * (wy (n - 1) (d) : Int) + 2 * (wy (n - 1) (d + 1) : Int) + 2 * (wy (n - 1) (d - 1) : Int))) := ⟨_, rfl⟩
                  rw [← hY] at HF ⊢
                  clear hY c1 q1
                  go_wp2
                  go_roundw
                  case rel => exact ⟨d + 1, by omega, by go_num, HF.out⟩
                  case measure => simp [intOf]; omega
          · obtain rfl : d = L + 1 := by omega
            have HX := Lib.hid (Tail.out wr _ hX (.inr rfl))
            have d6 : decide ((L : Int) + 1 ≤ (L : Int)) = false := decide_eq_false (by omega)
            clear hX
            obtain ⟨vs, hrow, hbs_⟩ := HX.out.out.held
            rw [wRows_len] at hrow
            have HR := Lib.hid (And.intro hrow hbs_)
            have hz3 := HX.out.below.size
            clear hrow hbs_
            go_wp2_with (at_builtin; refine wpList_append_lies _ rfl _ _ 78 rfl w.heap.size 25 j0 (.slice none 0 0) 1 24 Try.underlying78 hj hy0 hy1 hy2 rfl (by decide) _ n _ rfl (HR.out.1.alloc _) ⟨wr.heap.size, 0, none⟩ 1 1 [.slice (some ⟨Wo.heap.size, 0, none⟩) (L + 2) (L + 2)] rfl rfl (World.news_of_block (Bx.new wr _ _)) (one_singW rfl) (by decide) ?c1 ?c2 ?c3 _ rfl ?_)
            case c1 => unfold maxLen; omega
            case c2 => omega
            case c3 => simp; omega
            intro g1 cap1 w5 hown hg5 hat hltg
            have hX := HX.out
            have hB6 : Below w.heap.size w w5 := (hX.below.alloc hX.below.size _).grown hg5 (by simp; omega) (fun k hk => ((ints2_ok _).lt hX.out k (HR.out.2 k hk)).1)
            have hre : IntsE w.heap.size wr (.slice (some ⟨Wo.heap.size, 0, none⟩) (L + 2) (L + 2)) (wRow L n) [Wo.heap.size] := by have := hX.row; rwa [wRowT_done (by omega)] at this
            obtain ⟨bs6, hS6, _⟩ := many_grow (ints_ok _) ((ints2_ok _).later hX.out ((Below.refl _ _).alloc (Nat.le_refl _) _)) (wRows_len L n) (HR.out.1.alloc _) ((ints_ok _).later hre ((Below.refl _ _).alloc (Nat.le_refl _) _)) (fun b hb hm => hX.apart (by rw [← List.mem_singleton.1 hm]; exact hb)) hown hg5 rfl (by rcases hat with h | h; exact .inl h; exact .inr (by rw [World.size_alloc]; exact h))
            rw [← wRows_succ] at hS6
            have HS6 := Lib.hid (And.intro hS6 hB6)
            clear hown hg5 hat hX hS6 hB6 hre HR HX
            go_wp2
            go_roundw
            case rel => exact ⟨n + 1, by omega, by first | rfl | go_num, ⟨_, HS6.out.1⟩, HS6.out.2⟩
            case measure => simp [intOf]; try omega
    · obtain rfl : n = L + 1 := by omega
      go_wp2
      go_ret
      exact ⟨_, bs, rfl, hO, hB⟩
end Go.Proofs.Ytnclhgaikglbgaa
/- CountMatched, of the model and of the program. -/
namespace Go.Proofs.Ytnclhgaikglbgaa
open Go.RowKit
set_option linter.unusedVariables false

/-- What holds of the rows that the model has made. -/
theorem ways_cell {base L n d : Nat} {W : World} {v : Value} {bs : List Nat} (h : Ints2E base W v (wRows L (L + 1)) bs) (hn : n ≤ L) (hd : d ≤ L + 1) :
    ∃ go ko gq kq, v = .slice (some ⟨go, 0, none⟩) (L + 1) ko ∧ W.cell? ⟨go, n, none⟩ = some (.slice (some ⟨gq, 0, none⟩) (L + 2) kq) ∧ W.cell? ⟨gq, d, none⟩ = some (.int .i64 (wy n d : Int)) := by
  obtain ⟨go, ko, u, bq, hv, hc, hE, _⟩ := many_at3 h (wRows_at (show n < L + 1 by omega))
  rw [wRows_len] at hv
  obtain ⟨Aq, kq, rfl⟩ := RowE.slice hE
  rw [wRow_len] at hE hc
  obtain ⟨gq, rfl, _⟩ := RowE.head hE (j := d) (by rw [wRow_len]; omega)
  exact ⟨go, ko, gq, kq, hv, hc, IntsE.cell' hE (wRow_at (by omega))⟩

end Go.Proofs.Ytnclhgaikglbgaa
/- MatchedAt of the program. -/
namespace Go.Proofs.Ytnclhgaikglbgaa
open Go.RowKit
set_option linter.unusedVariables false

theorem wrap_nth {n : Int} (h : -1000 ≤ n ∧ n ≤ 4000000000000000000) : IntKind.i64.wrap n = n := by unfold IntKind.wrap IntKind.signed IntKind.bits; simp; omega
theorem deepT_dn' {d s : Nat} (hs : s ≤ 5) (h : s < 2 ∨ 4 ≤ s ∨ 1 ≤ d) : (d : Int) + deepT s = (dn d s : Int) := by
  obtain rfl | rfl | rfl | rfl | rfl | rfl : s = 0 ∨ s = 1 ∨ s = 2 ∨ s = 3 ∨ s = 4 ∨ s = 5 := by omega
  all_goals simp [deepT, dn]
  all_goals omega
/-- How far the text has come: what is done, and what is left. -/
structure NthAt (n k0 left d k : Nat) (done : List Nat) : Prop where
  le : left ≤ n
  len : done.length + left = n
  dl : d + left ≤ n
  kl : k < wy left d
  eq : nth n 0 k0 = done ++ nth left d k
theorem NthAt.start {n k : Nat} (h : k < wy n 0) : NthAt n k n 0 k [] := ⟨Nat.le_refl _, by simp, by simp, h, by simp⟩
theorem dn_le (d s : Nat) : dn d s ≤ d + 1 := by unfold dn; split <;> (try split) <;> omega
theorem NthAt.next {n k0 left d k x : Nat} {done : List Nat} (h : NthAt n k0 (left + 1) d k done) (hx : x ≤ 5) (h1 : cbs left d x ≤ k) (h2 : k - cbs left d x < cb left d x) : NthAt n k0 left (dn d x) (k - cbs left d x) (done ++ [x]) := by
  obtain ⟨a, b, c, e, f⟩ := h
  have := dn_le d x
  refine ⟨by omega, by simp; omega, by omega, by rw [← (cb_dn h2).1]; exact h2, ?_⟩
  rw [f, nth_hits hx h1 h2]
  simp

end Go.Proofs.Ytnclhgaikglbgaa
