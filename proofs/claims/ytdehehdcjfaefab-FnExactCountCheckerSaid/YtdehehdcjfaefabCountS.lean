/- CountChecker of the model. -/
import Derived.Test.YtdehehdcjfaefabDepthS
import Derived.Test.YtdehehdcjfaefabSym
namespace Go.Proofs.Ytdehehdcjfaefab
open Go.RowKit
set_option linter.unusedVariables false

theorem wrap_small {n : Int} (h : 0 ≤ n ∧ n ≤ 1000) : IntKind.i64.wrap n = n := by unfold IntKind.wrap IntKind.signed IntKind.bits; simp; omega
theorem byte_one {t : ByteArray} (h : t.size = 1) : ∃ b : UInt8, t = ⟨#[b]⟩ := by
  have h1 : t.data.size = 1 := h
  obtain ⟨d⟩ := t
  obtain ⟨l⟩ := d
  match l, h1 with
  | [b], _ => exact ⟨b, rfl⟩
theorem symNo_le5 (n : Int) : symNo n ≤ 5 := by unfold symNo; (repeat' split) <;> omega
abbrev countPre (k0 m k : Nat) : Ck := plainCk k (fun d => decide (d = 0)) (countTo k0 m)
theorem count_step (k0 m k : Nat) (a : Bool) (ha : a = decide (k = 0)) : plusCk (countPre k0 m k) a (countTo k0 m k 0) (countTo k0 m k 1) (countTo k0 m k 2) (countTo k0 m k 3) (countTo k0 m k 4) (countTo k0 m k 5) = countPre k0 m (k + 1) := by
  rw [ha]
  exact plain_succ k (fun d => decide (d = 0)) (countTo k0 m)
theorem count_six {k0 m d : Nat} (hm : 1 ≤ m) (h : k0 ≤ 5) : (List.replicate 6 (d : Int)).set k0 (((d : Int) + 1).tmod (m : Int)) = [countTo k0 m d 0, countTo k0 m d 1, countTo k0 m d 2, countTo k0 m d 3, countTo k0 m d 4, countTo k0 m d 5] := by
  have e : ((d : Int) + 1).tmod (m : Int) = (((d + 1) % m : Nat) : Int) := by
    rw [Int.tmod_eq_emod_of_nonneg (by omega), Int.natCast_emod]; rfl
  rw [e]
  obtain rfl | rfl | rfl | rfl | rfl | rfl : k0 = 0 ∨ k0 = 1 ∨ k0 = 2 ∨ k0 = 3 ∨ k0 = 4 ∨ k0 = 5 := by omega
  all_goals simp [countTo, List.replicate_succ]

/-- One byte that is a symbol, and a number of states that fits. -/
def CountOk (s : ByteArray) (y : Int) : Prop := ∃ q : UInt8, s = ⟨#[q]⟩ ∧ 0 ≤ symNo q.toNat ∧ 1 ≤ y ∧ y ≤ 40

set_option maxHeartbeats 3200000 in
set_option maxRecDepth 100000 in
theorem spec_Count_no (s : ByteArray) (y : Int) (w : World) (hs : s.size ≤ 1048576) (h : ¬ CountOk s y) : Calls Try.prog 26 #[.string s, .int .i64 y] w (PostR CkE nilCk 2 w) := by
  have hB := (Below.refl w.heap.size w).alloc (Nat.le_refl _) (.cells #[.int .i64 0, .int .i64 0, .slice none 0 0, .slice none 0 0, .slice none 0 0, .slice none 0 0] 31)
  obtain ⟨c0, c1, c2, c3, c4, c5, cl⟩ := id (Bx.all6 (Bx.new w 31 #[.int .i64 0, .int .i64 0, .slice none 0 0, .slice none 0 0, .slice none 0 0, .slice none 0 0]))
  by_cases h1 : s.size = 1
  · obtain ⟨q, rfl⟩ := byte_one h1
    by_cases h2 : 0 ≤ symNo q.toNat
    · have h3 : y < 1 ∨ 40 < y := by
        by_cases h4 : 1 ≤ y ∧ y ≤ 40
        · exact absurd ⟨q, rfl, h2, h4.1, h4.2⟩ h
        · omega
      have h2n : 0 ≤ symNo (((⟨#[q]⟩ : ByteArray)[0]'Nat.zero_lt_one).toNat : Int) := h2
      have Hin := Lib.hid (fun W => in_no y 1 40 W h3)
      clear h h3
      go_enter Try.func26, Try.ntmps26
      go_wp2_with fail
      refine (spec_symbol _ _).mono ?_
      rintro e w1 ⟨rfl, rfl⟩
      go_wp2_with fail
      refine (Hin.out _).mono ?_
      rintro e w1 ⟨rfl, rfl⟩
      go_wp2
      exact bodyPost_ret (v := .tuple #[.agg #[.int .i64 0, .int .i64 0, .slice none 0 0, .slice none 0 0, .slice none 0 0, .slice none 0 0], .int .i64 2]) (by simp [results, Try.results26, go_sem, c0, c1, c2, c3, c4, c5]) rfl ⟨_, [], rfl, nil_ck _ _, hB⟩
    · have h2' : symNo q.toNat < 0 := by omega
      have h2n : symNo (((⟨#[q]⟩ : ByteArray)[0]'Nat.zero_lt_one).toNat : Int) < 0 := h2'
      clear h
      go_enter Try.func26, Try.ntmps26
      go_wp2_with fail
      refine (spec_symbol _ _).mono ?_
      rintro e w1 ⟨rfl, rfl⟩
      go_wp2
      exact bodyPost_ret (v := .tuple #[.agg #[.int .i64 0, .int .i64 0, .slice none 0 0, .slice none 0 0, .slice none 0 0, .slice none 0 0], .int .i64 2]) (by simp [results, Try.results26, go_sem, c0, c1, c2, c3, c4, c5]) rfl ⟨_, [], rfl, nil_ck _ _, hB⟩
  · have hin : ¬ ((s.size : Int) = 1) := by omega
    clear h
    go_enter Try.func26, Try.ntmps26
    go_wp2
    exact bodyPost_ret (v := .tuple #[.agg #[.int .i64 0, .int .i64 0, .slice none 0 0, .slice none 0 0, .slice none 0 0, .slice none 0 0], .int .i64 2]) (by simp [results, Try.results26, go_sem, c0, c1, c2, c3, c4, c5]) rfl ⟨_, [], rfl, nil_ck _ _, hB⟩

set_option maxHeartbeats 12800000 in
set_option maxRecDepth 100000 in
theorem spec_Count_yes (q : UInt8) (k0 m : Nat) (w : World) (hk0 : (k0 : Int) = symNo q.toNat) (h1 : 1 ≤ m) (h2 : m ≤ 40) : Calls Try.prog 26 #[.string ⟨#[q]⟩, .int .i64 (m : Int)] w (PostR CkE (countCk k0 m) 0 w) := by
  have hk5 : k0 ≤ 5 := by have := symNo_le5 q.toNat; omega
  have HK0 := Lib.hid hk0
  have hsy : 0 ≤ symNo q.toNat := by omega
  have hsn : 0 ≤ symNo (((⟨#[q]⟩ : ByteArray)[0]'Nat.zero_lt_one).toNat : Int) := hsy
  have Hin := Lib.hid (fun W => in_yes (m : Int) 1 40 W (by omega) (by omega))
  have hBr := (Below.refl w.heap.size w).alloc (Nat.le_refl _) (.cells #[.int .i64 0, .int .i64 0, .slice none 0 0, .slice none 0 0, .slice none 0 0, .slice none 0 0] 31)
  have hres := Bx.new w 31 #[.int .i64 0, .int .i64 0, .slice none 0 0, .slice none 0 0, .slice none 0 0, .slice none 0 0]
  obtain ⟨Wr, hWr⟩ : ∃ Wr, Wr = w.alloc (.cells #[.int .i64 0, .int .i64 0, .slice none 0 0, .slice none 0 0, .slice none 0 0, .slice none 0 0] 31) := ⟨_, rfl⟩
  rw [← hWr] at hBr hres
  have hB1 := (Below.refl Wr.heap.size Wr).alloc (Nat.le_refl _) (.cells #[.int .i64 1, .int .i64 0, .slice none 0 0, .slice none 0 0, .slice none 0 0, .slice none 0 0] 31)
  have hbox := plain_box0 (base := Wr.heap.size) Wr (fun d => decide (d = 0)) (countTo k0 m)
  have hr1 := hres.alloc (.cells #[.int .i64 1, .int .i64 0, .slice none 0 0, .slice none 0 0, .slice none 0 0, .slice none 0 0] 31)
  obtain ⟨b, hb⟩ : ∃ b, b = Wr.heap.size := ⟨_, rfl⟩
  obtain ⟨W1, hW1⟩ : ∃ W1, W1 = Wr.alloc (.cells #[.int .i64 1, .int .i64 0, .slice none 0 0, .slice none 0 0, .slice none 0 0, .slice none 0 0] 31) := ⟨_, rfl⟩
  rw [← hW1] at hB1 hbox hr1
  have hne : w.heap.size ∉ b :: ([] : List Nat) := by
    have := hres.lt
    simp; omega
  have HWL := Lib.hid hres.lt
  have HBr := Lib.hid hBr
  have HR := Lib.hid (And.intro hr1 (And.intro hB1 hne))
  have HW1 := Lib.hid (show ∀ k ∈ b :: ([] : List Nat), Wr.heap.size ≤ k by intro k hk; rw [List.mem_singleton.1 hk, hb]; exact Nat.le_refl _)
  have HG := Lib.hid (show GrownAt Wr.heap.size W1 b [] W1 (countPre k0 m 0) from GrownAt.refl (by rw [hb]; exact hbox) hB1.size)
  have HW := Lib.hid (And.intro hWr (And.intro hW1 hb))
  have hbs : b < W1.heap.size := by rw [hb]; exact hbox.lt.1
  clear hBr hres hB1 hbox hr1 hne hWr hW1 hb hk0
  go_enter Try.func26, Try.ntmps26
  go_wp2_with fail
  refine (spec_symbol _ _).mono ?_
  rintro e w1 ⟨rfl, rfl⟩
  go_wp2_with fail
  refine (Hin.out _).mono ?_
  rintro e w1 ⟨rfl, rfl⟩
  go_wp2_with fail
  have hz : w.heap.size + 1 = b := by rw [HW.out.2.2, HW.out.1, World.size_alloc]
  rw [← HW.out.1, ← HW.out.2.1]
  try rw [hz]
  clear hz HW
  go_loopw [7] (fun i wr => ∃ k : Nat, k ≤ m ∧ i = .int .i64 k ∧ GrownAt Wr.heap.size W1 b [] wr (countPre k0 m k)) (fun i _ => m - (intOf i).toNat)
  case atStart => exact ⟨0, Nat.zero_le _, rfl, HG.out⟩
  case round =>
    obtain ⟨d, hk, rfl, hG⟩ := hrel
    have HGk := Lib.hid hG
    by_cases hlt : d < m
    · have Hs6 := Lib.hid (spec_same6 (d : Int) 6 (by omega) wr)
      clear hG
      go_wp2_with fail
      refine Hs6.out.mono ?_
      rintro e w2 ⟨v2, bs2, rfl, hto, hal⟩
      obtain ⟨A2, kt, rfl⟩ := RowE.slice hto
      obtain ⟨g, rfl, hg, hbsg⟩ := RowE.head hto (j := k0) (by rw [List.length_replicate]; omega)
      rw [List.length_replicate] at hto ⊢
      have hgc : w2.cell? ⟨g, k0, none⟩ = some (.int .i64 (d : Int)) := IntsE.cell' hto (by rw [List.getElem?_replicate, if_pos (by omega)])
      have HT := Lib.hid (And.intro hto (And.intro hal (And.intro hg hgc)))
      clear hto hal hg hgc
      go_upto_region 8 with fail
      refine wp_region_free_seq (by kernel_rfl) [
        .val [] (fun _ => .slice (some ⟨g, 0, none⟩) 6 kt),
        .val [] (fun _ => .string ⟨#[q]⟩),
        .val [] (fun _ => .int .u8 q.toNat),
        .val [] (fun _ => .int .i64 (k0 : Int)),
        .val [] (fun _ => .int .i64 (d : Int)),
        .val [] (fun _ => .int .i64 ((d : Int) + 1)),
        .val [] (fun _ => .int .i64 (m : Int)),
        .val [] (fun _ => .int .i64 (((d : Int) + 1).tmod (m : Int))),
        .val [] (fun _ => .pointer (some ⟨g, k0, none⟩))] 9 ?hp ?hfw ?deps ?oks ?hforced ?hf ?steps ?tail
      case hp => kernel_rfl
      case hfw => kernel_rfl
      case deps => kernel_rfl
      case hforced => kernel_rfl
      case hf => kernel_rfl
      case oks =>
        intro F hF
        simp only [List.mem_cons, List.not_mem_nil, or_false] at hF
        rcases hF with rfl | rfl | rfl | rfl | rfl | rfl | rfl | rfl | rfl
        all_goals trivial
      case steps =>
        refine Steps.cons ?_ ?_
        · intro _
          refine FreeStep.val [] _ rfl rfl fun u β W hW hn fr hfr K hK => ?_
          simp only [frameL, putL, Act.put, List.setIfInBounds_toArray, List.set_cons_zero, List.set_cons_succ, Nat.zero_add, Nat.reduceAdd] at hfr
          subst hfr
          have HK := Lib.hid hK
          clear hK hn
          go_simp
          exact HK.out
        refine Steps.cons ?_ ?_
        · intro _
          refine FreeStep.val [] _ rfl rfl fun u β W hW hn fr hfr K hK => ?_
          simp only [frameL, putL, Act.put, List.setIfInBounds_toArray, List.set_cons_zero, List.set_cons_succ, Nat.zero_add, Nat.reduceAdd] at hfr
          subst hfr
          have HK := Lib.hid hK
          clear hK hn
          go_simp
          exact HK.out
        refine Steps.cons ?_ ?_
        · intro _
          refine FreeStep.val [] _ rfl rfl fun u β W hW hn fr hfr K hK => ?_
          simp only [frameL, putL, Act.put, List.setIfInBounds_toArray, List.set_cons_zero, List.set_cons_succ, Nat.zero_add, Nat.reduceAdd] at hfr
          subst hfr
          have e1 : u 1 = .string ⟨#[q]⟩ := Have.get (k := 1) hn rfl
          simp only [e1] at hK
          have HK := Lib.hid hK
          clear hK hn
          go_simp
          exact HK.out
        refine Steps.cons ?_ ?_
        · intro _
          refine FreeStep.calm [] _ rfl rfl fun u β W hW hn fr hfr K hK => ?_
          simp only [frameL, putL, Act.put, List.setIfInBounds_toArray, List.set_cons_zero, List.set_cons_succ, Nat.zero_add, Nat.reduceAdd] at hfr
          subst hfr
          have e2 : u 2 = .int .u8 q.toNat := Have.get (k := 2) hn rfl
          simp only [e2] at hK
          have Q : Hid (Calls Try.prog 67 #[.int .u8 q.toNat] W fun e w' => e = .returned (.int .i64 (k0 : Int)) ∧ W = w') := Lib.hid (by rw [HK0.out]; exact spec_symbol _ _)
          have HK := Lib.hid hK
          clear hK hn
          go_simp
          refine Q.out.mono ?_
          rintro e w1 ⟨rfl, rfl⟩
          exact HK.out _ (Below.refl _ _)
        refine Steps.cons ?_ ?_
        · intro _
          refine FreeStep.val [] _ rfl rfl fun u β W hW hn fr hfr K hK => ?_
          simp only [frameL, putL, Act.put, List.setIfInBounds_toArray, List.set_cons_zero, List.set_cons_succ, Nat.zero_add, Nat.reduceAdd] at hfr
          subst hfr
          have HK := Lib.hid hK
          clear hK hn
          go_simp
          exact HK.out
        refine Steps.cons ?_ ?_
        · intro _
          refine FreeStep.val [] _ rfl rfl fun u β W hW hn fr hfr K hK => ?_
          simp only [frameL, putL, Act.put, List.setIfInBounds_toArray, List.set_cons_zero, List.set_cons_succ, Nat.zero_add, Nat.reduceAdd] at hfr
          subst hfr
          have e4 : u 4 = .int .i64 (d : Int) := Have.get (k := 4) hn rfl
          simp only [e4] at hK
          have hwr : IntKind.i64.wrap ((d : Int) + 1) = (d : Int) + 1 := wrap_small ⟨by omega, by omega⟩
          have HK := Lib.hid hK
          clear hK hn
          go_simp
          exact HK.out
        refine Steps.cons ?_ ?_
        · intro _
          refine FreeStep.val [] _ rfl rfl fun u β W hW hn fr hfr K hK => ?_
          simp only [frameL, putL, Act.put, List.setIfInBounds_toArray, List.set_cons_zero, List.set_cons_succ, Nat.zero_add, Nat.reduceAdd] at hfr
          subst hfr
          have HK := Lib.hid hK
          clear hK hn
          go_simp
          exact HK.out
        refine Steps.cons ?_ ?_
        · intro _
          refine FreeStep.val [] _ rfl rfl fun u β W hW hn fr hfr K hK => ?_
          simp only [frameL, putL, Act.put, List.setIfInBounds_toArray, List.set_cons_zero, List.set_cons_succ, Nat.zero_add, Nat.reduceAdd] at hfr
          subst hfr
          have e5 : u 5 = .int .i64 ((d : Int) + 1) := Have.get (k := 5) hn rfl
          have e6 : u 6 = .int .i64 (m : Int) := Have.get (k := 6) hn rfl
          simp only [e5, e6] at hK
          have HK := Lib.hid hK
          clear hK hn
          go_simp
          rw [if_neg (show ¬ m = 0 by omega)]
          go_simp
          exact HK.out
        refine Steps.cons ?_ ?_
        · intro _
          refine FreeStep.val [] _ rfl rfl fun u β W hW hn fr hfr K hK => ?_
          simp only [frameL, putL, Act.put, List.setIfInBounds_toArray, List.set_cons_zero, List.set_cons_succ, Nat.zero_add, Nat.reduceAdd] at hfr
          subst hfr
          have e0 : u 0 = .slice (some ⟨g, 0, none⟩) 6 kt := Have.get (k := 0) hn rfl
          have e3 : u 3 = .int .i64 (k0 : Int) := Have.get (k := 3) hn rfl
          simp only [e0, e3] at hK
          have HK := Lib.hid hK
          clear hK hn
          go_simp
          rw [if_pos (show (k0 : Int) < 6 by omega)]
          go_simp
          exact HK.out
        exact ⟨fun h => absurd h (by decide), trivial⟩
      case tail =>
        intro u β W hW hn hdis hbnd fr hfr
        simp only [frameL, putL, Act.put, List.setIfInBounds_toArray, List.set_cons_zero, List.set_cons_succ, Nat.zero_add, Nat.reduceAdd] at hfr
        subst hfr
        have e7 : u 7 = .int .i64 (((d : Int) + 1).tmod (m : Int)) := Have.get (k := 7) hn rfl
        have e8 : u 8 = .pointer (some ⟨g, k0, none⟩) := Have.get (k := 8) hn rfl
        obtain ⟨hto, hal, hg, hgc⟩ := HT.out
        have hcW := cell_later' hgc hW
        have htoW := (ints_ok _).later hto hW
        have f0 := RowE.frozen htoW k0
        have hp := RowE.put1 (f := fun x => Value.int .i64 x) htoW k0 (((d : Int) + 1).tmod (m : Int))
        rw [count_six h1 hk5] at hp
        have hlo := fun k hk => ((ints_ok _).lt hto k hk).1
        have HP := Lib.hid (And.intro hp.1 (And.intro hp.2 (And.intro (hal.trans (hW.mono hal.size)) hlo)))
        clear hto hal hg hgc htoW hp hlo hn hdis hbnd HT
        show wpOps _ _ _ [9] _ _
        rw [wpOps_cons]
        refine wpOp_step rfl (fun K hK => ?_)
        go_simp
        refine hK _ _ ?_
        clear hK hcW f0
        unfold wpOps
        obtain ⟨hto, hTt, hal, hlo⟩ := HP.out
        obtain ⟨Y, hY⟩ : ∃ Y, Y = W.setCell ⟨g, k0, none⟩ (.int .i64 (((d : Int) + 1).tmod (m : Int))) := ⟨_, rfl⟩
        rw [← hY] at hto hTt ⊢
        have halY : Below wr.heap.size wr Y := hTt.below hal hal.size hlo
        have hGa := HGk.out.later halY
        obtain ⟨⟨bs0, hbx0, hs0⟩, hT0, hb0⟩ := HGk.out
        have hd0 : ∀ q ∈ bs2, q ∉ b :: bs0 := by
          intro q hq hm
          have h1 := hbx0.lt
          have h2 := hlo q hq
          rcases List.mem_cons.1 hm with e | hm
          · omega
          · have := (h1.2 _ hm).2; omega
        have hbxa := hbx0.later halY
        have Hp := Lib.hid (fun a => spec_plain a _ _ _ _ _ _ _ rfl (plain_short _ _ (by omega)) (Nat.le_trans hGa.base hGa.turned.size) hbxa hto hd0)
        have Hst := Lib.hid (fun (X : World) hX => GrownAt.trans hGa hs0 (w' := X) (c' := countPre k0 m (d + 1)) hX)
        have Hstep := Lib.hid (count_step k0 m d)
        clear hal hto hGa hbx0 hs0 hT0 hb0 hd0 hbxa hTt halY hlo hY HP
        generalize u 0 = s0
        generalize u 1 = s1
        generalize u 2 = s2
        generalize u 3 = s3
        generalize u 4 = s4
        generalize u 5 = s5
        generalize u 6 = s6
        generalize u 7 = s7
        generalize u 8 = s8
        go_wp2_with fail
        refine (Hp.out _).mono ?_
        rintro e w3 ⟨rfl, hG2⟩
        rw [Hstep.out _ (by by_cases h0 : d = 0 <;> simp [h0])] at hG2
        have hG3 := Lib.hid (Hst.out w3 hG2)
        clear hG2 Hst Hp
        go_wp2
        go_roundw
        case rel => exact ⟨d + 1, by omega, by go_num, hG3.out⟩
        case measure => simp [intOf]; omega
    · have e : d = m := by omega
      subst e
      obtain ⟨c9, hc9⟩ : ∃ c9, c9 = countCk k0 d := ⟨_, rfl⟩
      have hG9 : GrownAt Wr.heap.size W1 b [] wr c9 := by rw [hc9]; exact hG
      have H9 := Lib.hid hc9.symm
      obtain ⟨X, rfl⟩ : ∃ X, X = wr := ⟨_, rfl⟩
      have HG9 := Lib.hid hG9
      clear hG hc9 HGk HG Hin hG9
      obtain ⟨⟨bs9, hbx9, hsub9⟩, hT9, hb9⟩ := HG9.out
      obtain ⟨va, vc, vr, vi, d1, d2, d3, d4, xb, f1, f2, f3, f4, rfl, hnd, hnb⟩ := hbx9.ex
      obtain ⟨A5, k5, rfl⟩ := RowE.slice f1
      obtain ⟨C5, kc5, rfl⟩ := ManyE.slice f2
      obtain ⟨R5, kr5, rfl⟩ := ManyE.slice f3
      obtain ⟨I5, ki5, rfl⟩ := ManyE.slice f4
      have xr : Bx X w.heap.size 31 #[.int .i64 0, .int .i64 0, .slice none 0 0, .slice none 0 0, .slice none 0 0, .slice none 0 0] := HR.out.1.same (hT9.block w.heap.size HR.out.1.lt HR.out.2.2)
      have hBX : Below Wr.heap.size Wr X := hT9.below HR.out.2.1 HR.out.2.1.size (fun k hk => HW1.out k hk)
      have Hf := Lib.hid (And.intro f1 (And.intro f2 (And.intro f3 (And.intro f4 (And.intro hnd (And.intro hBX xr))))))
      obtain ⟨z0, z1, z2, z3, z4, z5, zl⟩ := id xb.all6
      obtain ⟨r0, r1, r2, r3, r4, r5, rl⟩ := id xr.all6
      have q0 := xr.frozen 0
      have q1 := xr.frozen 1
      have q2 := xr.frozen 2
      have q3 := xr.frozen 3
      have q4 := xr.frozen 4
      have q5 := xr.frozen 5
      clear f1 f2 f3 f4 hnd hnb hbx9 xr xb hT9 hsub9 hBX
      go_wp2
      obtain ⟨f1, f2, f3, f4, hnd, hBX, xr⟩ := Hf.out
      have hBr0 := HBr.out
      have x5' := (((((xr.set 0 (.int .i64 c9.stack)).set 1 (.int .i64 c9.start)).set 2 (.slice A5 c9.accept.length k5)).set 3 (.slice C5 c9.call.length kc5)).set 4 (.slice R5 c9.ret.length kr5)).set 5 (.slice I5 c9.inner.length ki5)
      have hfr : ∀ (V : World) (i : Nat) (v : Value) (k : Nat), w.heap.size < k → (V.setCell ⟨w.heap.size, i, none⟩ v).heap[k]? = V.heap[k]? := fun V i v k hk => Below.heap_setCell V ⟨w.heap.size, i, none⟩ v k (fun e => by
        have h2 : k = w.heap.size := e
        omega)
      obtain ⟨Wf, hWf⟩ : ∃ Wf, Wf = (((((X.setCell ⟨w.heap.size, 0, none⟩ (.int .i64 c9.stack)).setCell ⟨w.heap.size, 1, none⟩ (.int .i64 c9.start)).setCell ⟨w.heap.size, 2, none⟩ (.slice A5 c9.accept.length k5)).setCell ⟨w.heap.size, 3, none⟩ (.slice C5 c9.call.length kc5)).setCell ⟨w.heap.size, 4, none⟩ (.slice R5 c9.ret.length kr5)).setCell ⟨w.heap.size, 5, none⟩ (.slice I5 c9.inner.length ki5) := ⟨_, rfl⟩
      have hkeep : ∀ k, w.heap.size < k → Wf.heap[k]? = X.heap[k]? := fun k hk => by
        rw [hWf, hfr _ _ _ k hk, hfr _ _ _ k hk, hfr _ _ _ k hk, hfr _ _ _ k hk, hfr _ _ _ k hk, hfr _ _ _ k hk]
      have hBf : Below w.heap.size w Wf := by
        rw [hWf]
        exact ((((((hBr0.trans (hBX.mono hBr0.size)).setCell (p := ⟨w.heap.size, 0, none⟩) (Nat.le_refl _) _).setCell (p := ⟨w.heap.size, 1, none⟩) (Nat.le_refl _) _).setCell (p := ⟨w.heap.size, 2, none⟩) (Nat.le_refl _) _).setCell (p := ⟨w.heap.size, 3, none⟩) (Nat.le_refl _) _).setCell (p := ⟨w.heap.size, 4, none⟩) (Nat.le_refl _) _).setCell (p := ⟨w.heap.size, 5, none⟩) (Nat.le_refl _) _
      rw [← hWf] at x5' ⊢
      have hlt0 := HWL.out
      have F1 := bools_base (Nat.zero_le _) _ _ _ _ ((bools_ok _).kept f1 fun k hk => hkeep k (by have := ((bools_ok _).lt f1 k hk).1; omega))
      have F2 := pushes2_base (Nat.zero_le _) _ _ _ _ ((push2_ok _).kept f2 fun k hk => hkeep k (by have := ((push2_ok _).lt f2 k hk).1; omega))
      have F3 := ints3_base (Nat.zero_le _) _ _ _ _ ((ints3_ok _).kept f3 fun k hk => hkeep k (by have := ((ints3_ok _).lt f3 k hk).1; omega))
      have F4 := ints2_base (Nat.zero_le _) _ _ _ _ ((ints2_ok _).kept f4 fun k hk => hkeep k (by have := ((ints2_ok _).lt f4 k hk).1; omega))
      have e0 := x5'.cell 0 (.int .i64 c9.stack) rfl
      have e1 := x5'.cell 1 (.int .i64 c9.start) rfl
      have e2 := x5'.cell 2 (.slice A5 c9.accept.length k5) rfl
      have e3 := x5'.cell 3 (.slice C5 c9.call.length kc5) rfl
      have e4 := x5'.cell 4 (.slice R5 c9.ret.length kr5) rfl
      have e5 := x5'.cell 5 (.slice I5 c9.inner.length ki5) rfl
      rw [H9.out]
      exact bodyPost_ret (v := .tuple #[.agg #[.int .i64 c9.stack, .int .i64 c9.start, .slice A5 c9.accept.length k5, .slice C5 c9.call.length kc5, .slice R5 c9.ret.length kr5, .slice I5 c9.inner.length ki5], .int .i64 0]) (by simp [results, Try.results26, go_sem, e0, e1, e2, e3, e4, e5]) rfl ⟨_, _, rfl, ⟨_, _, _, _, d1, d2, d3, d4, rfl, F1, F2, F3, F4, rfl, hnd⟩, hBf⟩
end Go.Proofs.Ytdehehdcjfaefab
