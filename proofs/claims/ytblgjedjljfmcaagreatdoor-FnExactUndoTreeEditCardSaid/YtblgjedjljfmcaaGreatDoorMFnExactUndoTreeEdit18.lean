import Derived.Test.YtblgjedjljfmcaaGreatDoorMFnExactUndoTreeEdit17
import Derived.Test.YtblgjedjljfmcaaGreatDoorMFnExactUndoTreeEdit9
import Derived.Test.YtblgjedjljfmcaaGreatDoorMFnExactUndoTreeEdit14
import Derived.Test.YtblgjedjljfmcaaGreatDoorMFnExactUndoTreeEdit16
import Derived.Test.YtblgjedjljfmcaaGreatDoorMFnExactUndoTreeEdit11
import Derived.Deep.AppendLies
import Derived.Deep.RegionWith
import Derived.OwnWalk
import Derived.Deep.DeepCutAuto
import Derived.Laws.EntriesVeiled
/- Rows one level deeper; the bounds of rows. -/
namespace Go.Proofs.YtblgjedjljfmcaaGreatDoor
open Go.RowKit Go.ChangeShapes Go.WideShapes Go.Deep
set_option linter.unusedVariables false

def Bd4 {α : Type} (xs : List (List (List (List α)))) : Prop := xs.length ≤ 1048576 ∧ ∀ x ∈ xs, Bd3 x
abbrev mkI4 := mkL mkI3 (szL (szL lenI))
abbrev mkP3 := mkL mkP2 (szL lenP)
abbrev Ints4R : RP (List (List (List (List Int)))) := ManyR Ints3R
abbrev Push3R : RP (List (List (List (Int × Int)))) := ManyR Push2R
theorem ints4_r : RP.Ok Ints4R := ManyR.ok ints3_r
theorem pushes3_r : RP.Ok Push3R := ManyR.ok pushes2_r
def cnt4 {α : Type} (xs : List (List (List (List α)))) : Nat := xs.length + szL cnt3 xs
section
variable {H : Type} {enc : TypeId × Value → H} {w : World} {held : Bool}
end

theorem bd1_of {α : Type} {xs : List α} (h : lenA xs ≤ 1048576) : Bd1 xs := h
theorem bd2_of {α : Type} {xs : List (List α)} (h : cnt2 xs ≤ 1048576) : Bd2 xs := by
  unfold cnt2 at h
  refine ⟨by omega, fun x hx => bd1_of ?_⟩
  have m := szL_mem (sz := lenA) _ _ hx
  omega
theorem bd3_of {α : Type} {xs : List (List (List α))} (h : cnt3 xs ≤ 1048576) : Bd3 xs := by
  unfold cnt3 at h
  refine ⟨by omega, fun x hx => bd2_of ?_⟩
  have m := szL_mem (sz := cnt2) _ _ hx
  omega
theorem bd4_of {α : Type} {xs : List (List (List (List α)))} (h : cnt4 xs ≤ 1048576) : Bd4 xs := by
  unfold cnt4 at h
  refine ⟨by omega, fun x hx => bd3_of ?_⟩
  have m := szL_mem (sz := cnt3) _ _ hx
  omega
theorem szL_le2 {α : Type} {f g : α → Nat} (h : ∀ x, f x ≤ 2 * g x) (xs : List α) : szL f xs ≤ 2 * szL g xs := by
  induction xs with
  | nil => exact Nat.zero_le _
  | cons y xs ih =>
    simp only [szL, List.map_cons, List.sum_cons] at ih ⊢
    have := h y
    omega
theorem le_bools (xs : List Bool) : xs.length ≤ 2 * lenA xs := by unfold lenA; omega
theorem le_ints (xs : List Int) : lenI xs ≤ 2 * lenA xs := by unfold lenA lenI; omega
theorem le_pushes (xs : List (Int × Int)) : lenP xs ≤ 2 * lenA xs := by unfold lenA lenP; omega
theorem le_ints2 (xs : List (List Int)) : szL lenI xs ≤ 2 * cnt2 xs := by have := szL_le2 le_ints xs; unfold cnt2; omega
theorem le_pushes2 (xs : List (List (Int × Int))) : szL lenP xs ≤ 2 * cnt2 xs := by have := szL_le2 le_pushes xs; unfold cnt2; omega
theorem le_ints3 (xs : List (List (List Int))) : szL (szL lenI) xs ≤ 2 * cnt3 xs := by have := szL_le2 le_ints2 xs; unfold cnt3; omega
theorem le_pushes3 (xs : List (List (List (Int × Int)))) : szL (szL lenP) xs ≤ 2 * cnt3 xs := by have := szL_le2 le_pushes2 xs; unfold cnt3; omega
theorem le_ints4 (xs : List (List (List (List Int)))) : szL (szL (szL lenI)) xs ≤ 2 * cnt4 xs := by have := szL_le2 le_ints3 xs; unfold cnt4; omega


end Go.Proofs.YtblgjedjljfmcaaGreatDoor
/- Brackets of the program: all of them, and whether a text is one. -/
namespace Go.Proofs.YtblgjedjljfmcaaGreatDoor
open Go.RowKit
set_option linter.unusedVariables false

abbrev BrkE (base : Nat) : EP (List (Int × Int)) := RowE base 143 2 fun x => [.int .u8 x.1, .int .u8 x.2]
theorem brkE_ok (base : Nat) : EP.Ok base (BrkE base) := RowE.ok _ _ _ _
theorem BrkE.cell' {base g n c : Nat} {w : World} {xs : List (Int × Int)} {bs : List Nat} (h : BrkE base w (.slice (some ⟨g, 0, none⟩) n c) xs bs) {j : Nat} {x : Int × Int} (hx : xs[j]? = some x) :
    w.cell? ⟨g, j * 2, none⟩ = some (.int .u8 x.1) ∧ w.cell? ⟨g, j * 2 + 1, none⟩ = some (.int .u8 x.2) :=
  ⟨RowE.cell h (fun _ => rfl) (i := 0) hx rfl, RowE.cell h (fun _ => rfl) (i := 1) hx rfl⟩
def brks : List (Int × Int) := [(0, 2), (0, 3), (1, 2), (1, 3)]
theorem toInfo_brk : (Tryz.prog.info? 143).map (fun i => (i.zero, i.size, i.bytes)) = some (some (.agg #[.int .u8 0, .int .u8 0]), 2, 2) := by kernel_rfl
theorem one_u8 {x y : Int} : ∀ u ∈ [Value.int .u8 x, Value.int .u8 y], u.oneCell' = true := by
  intro u hu
  rcases List.mem_cons.1 hu with rfl | hu
  · rfl
  · rw [List.mem_singleton.1 hu]; rfl
theorem below_grownB {w w' : World} (h : w.grownBy w' none) : Below w.heap.size w w' := ⟨h.os, h.tape, h.output, h.size, fun k hk => h.block k hk (by simp)⟩
theorem entersB {P : Program} {f : FuncId} {fn : Func} {c : Code} (hf : P.funcs[f]? = some fn) (hname : (fn.name == "runtime.NumGoroutine") = false) (hb : fn.body = some c) (args : Array Value) (w : World) :
    (callFunc f args).run P w = .ok (.enter f args) w := by
  have h1 : fn.name ≠ "runtime.NumGoroutine" := by simpa using hname
  simp [callFunc, hf, h1, hb]

theorem brk_clo (a b : Int) (w : World) : Calls Tryz.prog 97 #[.int .u8 a, .int .u8 b] w (TupPost (.agg #[.int .u8 a, .int .u8 b]) w) := by
  have hB := (Below.refl w.heap.size w).alloc (Nat.le_refl _) (.cells #[.int .u8 a, .int .u8 b] 143)
  go_enter Tryz.func97, Tryz.ntmps97
  go_wp2
  exact bodyPost_ret (v := .agg #[.int .u8 a, .int .u8 b]) (by simp [results, Tryz.results97, go_sem]) rfl ⟨rfl, hB⟩

/-- One more pair of brackets. -/
theorem brk_step (i j : Nat) (hi : i < 2) (hj : j < 2) : brks.take (2 * i + j) ++ [((i : Int), (2 : Int) + j)] = brks.take (2 * i + (j + 1)) := by
  obtain rfl | rfl : i = 0 ∨ i = 1 := by omega
  · obtain rfl | rfl : j = 0 ∨ j = 1 := by omega
    · rfl
    · rfl
  · obtain rfl | rfl : j = 0 ∨ j = 1 := by omega
    · rfl
    · rfl
set_option maxHeartbeats 3200000 in
set_option maxRecDepth 100000 in
theorem product_brk {g h : Nat} (w : World) (c0 : w.cell? ⟨g, 0, none⟩ = some (.int .u8 0)) (c1 : w.cell? ⟨g, 1, none⟩ = some (.int .u8 1)) (d0 : w.cell? ⟨h, 0, none⟩ = some (.int .u8 2)) (d1 : w.cell? ⟨h, 1, none⟩ = some (.int .u8 3)) :
    Calls Tryz.prog 94 #[.slice (some ⟨g, 0, none⟩) 2 2, .slice (some ⟨h, 0, none⟩) 2 2, .func (.func 97) #[] #[]] w (NewPost BrkE brks w) := by
  obtain ⟨i0, hi, hz0, hz1, hz2⟩ := info_parts toInfo_brk
  have hcf : ∀ args w, (callFunc 97 args).run Tryz.prog w = .ok (.enter 97 args) w := fun args w => entersB (fn := Tryz.f97) (by kernel_rfl) (by kernel_rfl) rfl args w
  have Hcf := Lib.hid hcf
  clear hcf
  have hg := World.block_lt_of_cell? _ _ c0
  have hh := World.block_lt_of_cell? _ _ d0
  have HC : Hid (∀ i : Nat, i < 2 → w.cell? ⟨g, i, none⟩ = some (.int .u8 (i : Int))) := fun i hi => by
    obtain rfl | rfl : i = 0 ∨ i = 1 := by omega
    · exact c0
    · exact c1
  have HD : Hid (∀ j : Nat, j < 2 → w.cell? ⟨h, j, none⟩ = some (.int .u8 ((2 : Int) + j))) := fun j hj => by
    obtain rfl | rfl : j = 0 ∨ j = 1 := by omega
    · exact d0
    · exact d1
  clear c0 c1 d0 d1
  have HL := Lib.hid (fun (i j : Nat) (h : 2 * i + j ≤ 4) => show (brks.take (2 * i + j)).length = 2 * i + j from by rw [List.length_take]; show min _ 4 = _; omega)
  go_enter Tryz.func94, Tryz.ntmps94
  go_wp2
  go_loopw [7, 9, 11, 14, 18, 19, 20] (fun sm _ _ i _ _ _ wr => ∃ k : Nat, k ≤ 2 ∧ i = .int .i64 k ∧ (∃ bs, BrkE w.heap.size wr sm (brks.take (2 * k + 0)) bs) ∧ Below w.heap.size w wr) (fun _ _ _ i _ _ _ _ => 2 - (intOf i).toNat)
  case atStart => exact ⟨0, Nat.zero_le _, rfl, ⟨_, ⟨World.ownsRow_nil w _ _ _, rfl⟩⟩, Below.refl _ _⟩
  case round =>
    obtain ⟨k, hk, rfl, ⟨bs, hS⟩, hB⟩ := hrel
    by_cases hlt : k < 2
    · have hc := (hB.cell (p := ⟨g, k, none⟩) hg).trans (HC.out k hlt)
      go_wp2
      try rw [show decide ((k : Int) < 2) = true from decide_eq_true (by omega)]
      have HS0 := Lib.hid (And.intro hS hB)
      clear hS hB
      obtain ⟨Wo, rfl⟩ : ∃ y, y = wr := ⟨_, rfl⟩
      go_loopw [7, 11, 20] (fun sm _ i wr => ∃ j : Nat, j ≤ 2 ∧ i = .int .i64 j ∧ (∃ bs, BrkE w.heap.size wr sm (brks.take (2 * k + j)) bs) ∧ Below w.heap.size w wr) (fun _ _ i _ => 2 - (intOf i).toNat)
      case atStart => exact ⟨0, Nat.zero_le _, rfl, ⟨_, HS0.out.1⟩, HS0.out.2⟩
      case round =>
        obtain ⟨j, hj, rfl, ⟨bs, hS⟩, hB⟩ := hrel
        by_cases hltj : j < 2
        · have hd := (hB.cell (p := ⟨h, j, none⟩) hh).trans (HD.out j hltj)
          obtain ⟨A', ca, e'⟩ := RowE.slice hS
          rw [HL.out k j (by omega)] at e'
          subst e'
          obtain ⟨n, hn⟩ : ∃ n, n = 2 * k + j := ⟨_, rfl⟩
          have Hn := Lib.hid hn
          have hn4 : n < 4 := by omega
          have hlen := Lib.hid (show (brks.take n).length = n from by rw [hn]; exact HL.out k j (by omega))
          have HS9 := Lib.hid hS
          rw [← hn] at HS9 ⊢
          clear hS
          have Hst := Lib.hid (brk_step k j hlt hltj)
          have HS := Lib.hid (And.intro HS9.out hB)
          clear HS9 hB hn
          have hcf := Hcf.out
          go_wp2_with fail
          clear hcf
          refine (brk_clo _ _ _).mono ?_
          rintro e w1 ⟨rfl, hb1⟩
          have hS1 := (brkE_ok _).later HS.out.1 hb1
          have hB1 := HS.out.2.trans (hb1.mono HS.out.2.size)
          have hrow := hS1.1
          rw [hlen.out] at hrow
          have Hb := Lib.hid (And.intro hS1 (And.intro hB1 hrow))
          have hz3 := hB1.size
          clear hS1 hB1 hrow hb1
          go_wp2_with (at_builtin; refine wpList_append_lies _ rfl _ _ 141 rfl w.heap.size 143 i0 (.agg #[.int .u8 0, .int .u8 0]) 2 2 Tryz.underlying141 hi hz0 hz1 hz2 rfl (by decide) _ n _ rfl (Hb.out.2.2.alloc _) ⟨w1.heap.size, 0, none⟩ 1 1 [.int .u8 (k : Int), .int .u8 ((2 : Int) + j)] rfl rfl (World.news_of_block (Bx.new w1 _ _)) one_u8 (by decide) ?c1 ?c2 ?c3 _ rfl ?_)
          case c1 => unfold maxLen; omega
          case c2 => omega
          case c3 => simp; omega
          intro g1 cap1 w5 hown hg5 hat hltg
          have hB6 : Below w.heap.size w w5 := (Hb.out.2.1.alloc Hb.out.2.1.size _).grown hg5 (by simp; omega) (fun k hk => ((brkE_ok _).lt Hb.out.1 k (by rw [Hb.out.1.2, hk]; simp)).1)
          have hS6 : BrkE w.heap.size w5 (.slice (some ⟨g1, 0, none⟩) (n + 1) cap1) (brks.take (2 * k + (j + 1))) [g1] := by
            rw [← Hst.out]
            refine ⟨?_, rfl⟩
            rw [← Hn.out, List.length_append, hlen.out, List.flatMap_append]
            exact hown
          clear hown hg5 hat
          go_wp2
          go_roundw
          case rel => exact ⟨j + 1, by omega, by go_num, ⟨_, hS6⟩, hB6⟩
          case measure => simp [intOf]; omega
        · have e : j = 2 := by omega
          subst e
          rw [show 2 * k + 2 = 2 * (k + 1) + 0 by omega] at hS
          go_wp2
          go_roundw
          case rel => exact ⟨k + 1, by omega, by go_num, ⟨_, hS⟩, hB⟩
          case measure => simp [intOf]; omega
    · have e : k = 2 := by omega
      subst e
      go_wp2
      go_ret
      exact ⟨_, bs, rfl, hS, hB⟩
set_option maxHeartbeats 1600000 in
set_option maxRecDepth 100000 in
theorem impl_brackets (w : World) : Calls Tryz.prog 74 #[] w (NewPost BrkE brks w) := by
  have hc : ∀ w, Calls Tryz.prog 95 #[] w fun e w' => e = .returned (.slice (some ⟨w.heap.size, 0, none⟩) 2 2) ∧ w' = w.alloc (.cells #[.int .u8 0, .int .u8 1] 120) := by
    intro w
    go_enter Tryz.func95, Tryz.ntmps95
    go_wp2
    go_ret
    exact ⟨rfl, rfl⟩
  have hr : ∀ w, Calls Tryz.prog 96 #[] w fun e w' => e = .returned (.slice (some ⟨w.heap.size, 0, none⟩) 2 2) ∧ w' = w.alloc (.cells #[.int .u8 2, .int .u8 3] 120) := by
    intro w
    go_enter Tryz.func96, Tryz.ntmps96
    go_wp2
    go_ret
    exact ⟨rfl, rfl⟩
  have x1 := (Bx.new w 120 #[.int .u8 0, .int .u8 1]).alloc (.cells #[.int .u8 2, .int .u8 3] 120)
  have x2 := Bx.new (w.alloc (.cells #[.int .u8 0, .int .u8 1] 120)) 120 #[.int .u8 2, .int .u8 3]
  have hB := ((Below.refl w.heap.size w).alloc (Nat.le_refl _) (.cells #[.int .u8 0, .int .u8 1] 120)).alloc (by simp) (.cells #[.int .u8 2, .int .u8 3] 120)
  rw [World.size_alloc] at x2
  have hP := product_brk _ (x1.cell 0 _ rfl) (x1.cell 1 _ rfl) (x2.cell 0 _ rfl) (x2.cell 1 _ rfl)
  have HP := Lib.hid hP
  have Hc := Lib.hid hc
  have Hr := Lib.hid hr
  clear hP hc hr x1 x2
  go_enter Tryz.func74, Tryz.ntmps74
  go_wp2_with fail
  refine (Hc.out _).mono ?_
  rintro e w1 ⟨rfl, rfl⟩
  go_wp2_with fail
  refine (Hr.out _).mono ?_
  rintro e w1 ⟨rfl, rfl⟩
  go_wp2_with fail
  refine HP.out.mono ?_
  rintro e w1 ⟨v, bs, rfl, hE, hb⟩
  go_wp2
  go_ret
  exact ⟨v, bs, rfl, (fun h => rowE_base h (by simp; omega)) hE, hB.trans (hb.mono hB.size)⟩

theorem brk_call (a b : Int) (w : World) : Calls Tryz.prog 98 #[.agg #[.int .u8 a, .int .u8 b]] w (TupPost (.int .u8 a) w) := by
  go_enter Tryz.func98, Tryz.ntmps98
  go_wp2
  go_ret
  exact ⟨rfl, (Below.refl _ _).alloc (Nat.le_refl _) _⟩
theorem brk_back (a b : Int) (w : World) : Calls Tryz.prog 100 #[.agg #[.int .u8 a, .int .u8 b]] w (TupPost (.int .u8 b) w) := by
  go_enter Tryz.func100, Tryz.ntmps100
  go_wp2
  go_ret
  exact ⟨rfl, (Below.refl _ _).alloc (Nat.le_refl _) _⟩
set_option maxHeartbeats 3200000 in
set_option maxRecDepth 100000 in
theorem brk_around (a b : Int) (s : ByteArray) (w : World) (ha : 0 ≤ a ∧ a ≤ 5) (hb : 0 ≤ b ∧ b ≤ 5) (hs : s.size ≤ 1048576) :
    Calls Tryz.prog 76 #[.agg #[.int .u8 a, .int .u8 b], .string s] w (TupPost (.string (⟨#[byteOf a]⟩ ++ s ++ ⟨#[byteOf b]⟩)) w) := by
  have hx := Bx.new w 143 #[.int .u8 a, .int .u8 b]
  have HX := Lib.hid hx
  have hB := (Below.refl w.heap.size w).alloc (Nat.le_refl _) (.cells #[.int .u8 a, .int .u8 b] 143)
  have HB := Lib.hid hB
  have Hta := Lib.hid fun W => impl_text a W ha
  have Htb := Lib.hid fun W => impl_text b W hb
  obtain ⟨ta, hta⟩ : ∃ t, t = (⟨#[byteOf a]⟩ : ByteArray) := ⟨_, rfl⟩
  obtain ⟨tb, htb⟩ : ∃ t, t = (⟨#[byteOf b]⟩ : ByteArray) := ⟨_, rfl⟩
  have sa : ta.size = 1 := by rw [hta]; rfl
  have sb : tb.size = 1 := by rw [htb]; rfl
  have sc : (ta ++ s).size ≤ 1048577 := by rw [ByteArray.size_append]; omega
  rw [← hta] at Hta ⊢
  rw [← htb] at Htb ⊢
  have HXD : Hid (Bx (w.alloc (.cells #[.int .u8 a, .int .u8 b] 143)).drew w.heap.size 143 #[.int .u8 a, .int .u8 b]) := hx.same rfl
  clear hx hB hta htb ha hb
  obtain ⟨c0, c1, cl⟩ := id HX.out.all2
  go_enter Tryz.func76, Tryz.ntmps76
  go_wp2_with fail
  go_upto_region 1 with fail
  refine wp_region_free (by kernel_rfl) [
      .val [] (fun _ => .agg #[.int .u8 a, .int .u8 b]),
      .val [] (fun _ => .int .u8 a),
      .val [] (fun _ => .string ta),
      .val [] (fun _ => .string s),
      .val [] (fun _ => .string (ta ++ s)),
      .val [] (fun _ => .agg #[.int .u8 a, .int .u8 b]),
      .val [] (fun _ => .int .u8 b),
      .val [] (fun _ => .string tb),
      .val [] (fun _ => .string (ta ++ s ++ tb)),
      .val [] (fun _ => .string (ta ++ s ++ tb))] ?hp ?hfw ?deps ?oks ?steps ?tail
  case hp => kernel_rfl
  case hfw => kernel_rfl
  case deps => kernel_rfl
  case oks =>
    intro F hF
    simp only [List.mem_cons, List.not_mem_nil, or_false] at hF
    rcases hF with rfl | rfl | rfl | rfl | rfl | rfl | rfl | rfl | rfl | rfl
    all_goals trivial
  case steps =>
    refine Steps.cons ?_ ?_
    · refine FreeStep.val [] _ rfl rfl fun u β W hW hn fr hfr K hK => ?_
      simp only [frameL, putL, Act.put, List.setIfInBounds_toArray, List.set_cons_zero, List.set_cons_succ, Nat.zero_add, Nat.reduceAdd] at hfr
      subst hfr
      obtain ⟨e0, e1, el⟩ := id (Bx.all2 (HX.out.later hW))
      have HK := Lib.hid hK
      clear hK hn
      go_simp
      have h9 := HK.out
      revert h9
      clear HK
      go_simp
      try exact id
    refine Steps.cons ?_ ?_
    · refine FreeStep.calm [] _ rfl rfl fun u β W hW hn fr hfr K hK => ?_
      simp only [frameL, putL, Act.put, List.setIfInBounds_toArray, List.set_cons_zero, List.set_cons_succ, Nat.zero_add, Nat.reduceAdd] at hfr
      subst hfr
      have e0 : u 0 = .agg #[.int .u8 a, .int .u8 b] := Have.get (k := 0) hn rfl
      simp only [e0] at hK
      have HK := Lib.hid hK
      clear hK hn
      go_simp
      refine (brk_call _ _ _).mono ?_
      rintro e w1 ⟨rfl, hb1⟩
      have h9 := HK.out _ hb1
      revert h9
      clear HK
      go_simp
      try exact id
    refine Steps.cons ?_ ?_
    · refine FreeStep.calm [] _ rfl rfl fun u β W hW hn fr hfr K hK => ?_
      simp only [frameL, putL, Act.put, List.setIfInBounds_toArray, List.set_cons_zero, List.set_cons_succ, Nat.zero_add, Nat.reduceAdd] at hfr
      subst hfr
      have e1 : u 1 = .int .u8 a := Have.get (k := 1) hn rfl
      simp only [e1] at hK
      have HK := Lib.hid hK
      clear hK hn
      go_simp
      refine (Hta.out _).mono ?_
      rintro e w1 ⟨rfl, rfl⟩
      have h9 := HK.out _ (Below.refl _ _)
      revert h9
      clear HK
      go_simp
      try exact id
    refine Steps.cons ?_ ?_
    · refine FreeStep.val [] _ rfl rfl fun u β W hW hn fr hfr K hK => ?_
      simp only [frameL, putL, Act.put, List.setIfInBounds_toArray, List.set_cons_zero, List.set_cons_succ, Nat.zero_add, Nat.reduceAdd] at hfr
      subst hfr
      have HK := Lib.hid hK
      clear hK hn
      go_simp
      have h9 := HK.out
      revert h9
      clear HK
      go_simp
      try exact id
    refine Steps.cons ?_ ?_
    · refine FreeStep.val [] _ rfl rfl fun u β W hW hn fr hfr K hK => ?_
      simp only [frameL, putL, Act.put, List.setIfInBounds_toArray, List.set_cons_zero, List.set_cons_succ, Nat.zero_add, Nat.reduceAdd] at hfr
      subst hfr
      have e2 : u 2 = .string ta := Have.get (k := 2) hn rfl
      have e3 : u 3 = .string s := Have.get (k := 3) hn rfl
      simp only [e2, e3] at hK
      have hq1 : ¬ (9223372036854775807 < 1 + s.size) := by omega
      have hq2 : ¬ (9223372036854775807 < ta.size + s.size) := by omega
      have HK := Lib.hid hK
      clear hK hn
      go_simp
      have h9 := HK.out
      revert h9
      clear HK
      go_simp
      try exact id
    refine Steps.cons ?_ ?_
    · refine FreeStep.val [] _ rfl rfl fun u β W hW hn fr hfr K hK => ?_
      simp only [frameL, putL, Act.put, List.setIfInBounds_toArray, List.set_cons_zero, List.set_cons_succ, Nat.zero_add, Nat.reduceAdd] at hfr
      subst hfr
      obtain ⟨e0, e1, el⟩ := id (Bx.all2 (HX.out.later hW))
      have HK := Lib.hid hK
      clear hK hn
      go_simp
      have h9 := HK.out
      revert h9
      clear HK
      go_simp
      try exact id
    refine Steps.cons ?_ ?_
    · refine FreeStep.calm [] _ rfl rfl fun u β W hW hn fr hfr K hK => ?_
      simp only [frameL, putL, Act.put, List.setIfInBounds_toArray, List.set_cons_zero, List.set_cons_succ, Nat.zero_add, Nat.reduceAdd] at hfr
      subst hfr
      have e5 : u 5 = .agg #[.int .u8 a, .int .u8 b] := Have.get (k := 5) hn rfl
      simp only [e5] at hK
      have HK := Lib.hid hK
      clear hK hn
      go_simp
      refine (brk_back _ _ _).mono ?_
      rintro e w1 ⟨rfl, hb1⟩
      have h9 := HK.out _ hb1
      revert h9
      clear HK
      go_simp
      try exact id
    refine Steps.cons ?_ ?_
    · refine FreeStep.calm [] _ rfl rfl fun u β W hW hn fr hfr K hK => ?_
      simp only [frameL, putL, Act.put, List.setIfInBounds_toArray, List.set_cons_zero, List.set_cons_succ, Nat.zero_add, Nat.reduceAdd] at hfr
      subst hfr
      have e6 : u 6 = .int .u8 b := Have.get (k := 6) hn rfl
      simp only [e6] at hK
      have HK := Lib.hid hK
      clear hK hn
      go_simp
      refine (Htb.out _).mono ?_
      rintro e w1 ⟨rfl, rfl⟩
      have h9 := HK.out _ (Below.refl _ _)
      revert h9
      clear HK
      go_simp
      try exact id
    refine Steps.cons ?_ ?_
    · refine FreeStep.val [] _ rfl rfl fun u β W hW hn fr hfr K hK => ?_
      simp only [frameL, putL, Act.put, List.setIfInBounds_toArray, List.set_cons_zero, List.set_cons_succ, Nat.zero_add, Nat.reduceAdd] at hfr
      subst hfr
      have e4 : u 4 = .string (ta ++ s) := Have.get (k := 4) hn rfl
      have e7 : u 7 = .string tb := Have.get (k := 7) hn rfl
      simp only [e4, e7] at hK
      have hq1 : ¬ (9223372036854775807 < 1 + s.size + 1) := by omega
      have hq2 : ¬ (9223372036854775807 < (ta ++ s).size + tb.size) := by omega
      have hq3 : ¬ (9223372036854775807 < ta.size + s.size + tb.size) := by omega
      have HK := Lib.hid hK
      clear hK hn
      go_simp
      have h9 := HK.out
      revert h9
      clear HK
      go_simp
      try exact id
    refine Steps.cons ?_ ?_
    · refine FreeStep.val [] _ rfl rfl fun u β W hW hn fr hfr K hK => ?_
      simp only [frameL, putL, Act.put, List.setIfInBounds_toArray, List.set_cons_zero, List.set_cons_succ, Nat.zero_add, Nat.reduceAdd] at hfr
      subst hfr
      have e8 : u 8 = .string (ta ++ s ++ tb) := Have.get (k := 8) hn rfl
      simp only [e8] at hK
      have HK := Lib.hid hK
      clear hK hn
      go_simp
      have h9 := HK.out
      revert h9
      clear HK
      go_simp
      try exact id
    exact Steps.nil
  case tail =>
    intro u_ β W hW hn hdis hbnd
    have z0 : u_ 0 = .agg #[.int .u8 a, .int .u8 b] := Have.get (k := 0) hn rfl
    have z1 : u_ 1 = .int .u8 a := Have.get (k := 1) hn rfl
    have z2 : u_ 2 = .string ta := Have.get (k := 2) hn rfl
    have z3 : u_ 3 = .string s := Have.get (k := 3) hn rfl
    have z4 : u_ 4 = .string (ta ++ s) := Have.get (k := 4) hn rfl
    have z5 : u_ 5 = .agg #[.int .u8 a, .int .u8 b] := Have.get (k := 5) hn rfl
    have z6 : u_ 6 = .int .u8 b := Have.get (k := 6) hn rfl
    have z7 : u_ 7 = .string tb := Have.get (k := 7) hn rfl
    have z8 : u_ 8 = .string (ta ++ s ++ tb) := Have.get (k := 8) hn rfl
    have z9 : u_ 9 = .string (ta ++ s ++ tb) := Have.get (k := 9) hn rfl
    rw [← frameL_eq (by kernel_rfl)]
    clear hn hdis hbnd
    simp only [frameL, putL, Act.put, List.setIfInBounds_toArray, List.set_cons_zero, List.set_cons_succ, Nat.zero_add, Nat.reduceAdd, z0, z1, z2, z3, z4, z5, z6, z7, z8, z9]
    clear z0 z1 z2 z3 z4 z5 z6 z7 z8 z9
    have hwc := HB.out.trans (hW.mono HB.out.size)
    go_wp2
    go_ret
    exact ⟨rfl, hwc⟩
end Go.Proofs.YtblgjedjljfmcaaGreatDoor
