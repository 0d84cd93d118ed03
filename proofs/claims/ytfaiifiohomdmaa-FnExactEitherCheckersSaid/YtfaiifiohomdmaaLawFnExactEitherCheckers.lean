/- The law FnExactEitherCheckers returns true at every input, and each argument reads afterwards as it read before: no condition. -/
import Derived.Test.YtfaiifiohomdmaaPairU
import Derived.Test.YtfaiifiohomdmaaFloat
import Derived.Test.YtfaiifiohomdmaaCopy1
import Derived.Test.YtfaiifiohomdmaaPosts
import Derived.Deep.RegionWith
import Derived.Deep.DeepCutAuto
import Derived.WalkKit
import Derived.ProofKit
import Derived.OpenShut
import Derived.ShutString
import Derived.ChangeOld
import Derived.Below
namespace Go.Proofs.Ytfaiifiohomdmaa
open Go.RowKit
set_option linter.unusedVariables false

/-- A value and a code. -/
def TupE {α : Type} (E : EP α) (code : Int) : EP α := fun w v x bs => ∃ u, v = .tuple #[u, .int .i64 code] ∧ E w u x bs
theorem tup_ok {α : Type} {base : Nat} {E : EP α} (hE : EP.Ok base E) (code : Int) : EP.Ok base (TupE E code) where
  kept := by rintro w w' v x bs ⟨u, rfl, h⟩ hs; exact ⟨u, rfl, hE.kept h hs⟩
  lt := by rintro w v x bs ⟨u, rfl, h⟩ k hk; exact hE.lt h k hk
  nodup := by rintro w v x bs ⟨u, rfl, h⟩; exact hE.nodup h
def fstV : Value → Value
  | .tuple a => a.getD 0 undef
  | _ => undef
theorem fst_tup (u c : Value) : fstV (.tuple #[u, c]) = u := rfl
/-- A struct that a call has answered, stored to a box of its own, and the code. -/
def CutB (x : Ck) (code : Int) (W : World) (p s : Value) (wx : World) : Prop := ∃ (b base : Nat) (A0 : Option Addr) (n0 k0 : Nat) (A1 : Option Addr) (n1 k1 : Nat) (A2 : Option Addr) (n2 k2 : Nat) (A3 : Option Addr) (n3 k3 : Nat) (bs : List Nat), p = .pointer (some ⟨b, 0, none⟩) ∧ s = .int .i64 code ∧ CkE base wx (.agg #[.int .i64 x.stack, .int .i64 x.start, .slice A0 n0 k0, .slice A1 n1 k1, .slice A2 n2 k2, .slice A3 n3 k3]) x bs ∧ Bx wx b 31 #[.int .i64 x.stack, .int .i64 x.start, .slice A0 n0 k0, .slice A1 n1 k1, .slice A2 n2 k2, .slice A3 n3 k3] ∧ Below W.heap.size W wx
theorem cutB_new {x : Ck} {code : Int} {W0 W : World} {base : Nat} {A0 A1 A2 A3 : Option Addr} {n0 k0 n1 k1 n2 k2 n3 k3 : Nat} {bs : List Nat} (h : CkE base W (.agg #[.int .i64 x.stack, .int .i64 x.start, .slice A0 n0 k0, .slice A1 n1 k1, .slice A2 n2 k2, .slice A3 n3 k3]) x bs) (hB : Below W0.heap.size W0 W) :
    CutB x code W0 (.pointer (some ⟨W.heap.size, 0, none⟩)) (.int .i64 code) (W.alloc (.cells #[.int .i64 x.stack, .int .i64 x.start, .slice A0 n0 k0, .slice A1 n1 k1, .slice A2 n2 k2, .slice A3 n3 k3] 31)) :=
  ⟨_, _, _, _, _, _, _, _, _, _, _, _, _, _, _, rfl, rfl, (ck_ok _).later h ((Below.refl _ _).alloc (Nat.le_refl _) _), Bx.new _ _ _, hB.alloc hB.size _⟩
theorem cutB_old {x : Ck} {code : Int} {W0 W : World} {b base : Nat} {A0 A1 A2 A3 : Option Addr} {n0 k0 n1 k1 n2 k2 n3 k3 : Nat} {bs : List Nat} (h : CkE base W (.agg #[.int .i64 x.stack, .int .i64 x.start, .slice A0 n0 k0, .slice A1 n1 k1, .slice A2 n2 k2, .slice A3 n3 k3]) x bs) (hne : ∀ k ∈ bs, k ≠ b) (hlo : W0.heap.size ≤ b) (hx : Bx W b 31 #[.int .i64 0, .int .i64 0, .slice none 0 0, .slice none 0 0, .slice none 0 0, .slice none 0 0]) (hB : Below W0.heap.size W0 W) :
    CutB x code W0 (.pointer (some ⟨b, 0, none⟩)) (.int .i64 code) ((((((W.setCell ⟨b, 0, none⟩ (.int .i64 x.stack)).setCell ⟨b, 1, none⟩ (.int .i64 x.start)).setCell ⟨b, 2, none⟩ (.slice A0 n0 k0)).setCell ⟨b, 3, none⟩ (.slice A1 n1 k1)).setCell ⟨b, 4, none⟩ (.slice A2 n2 k2)).setCell ⟨b, 5, none⟩ (.slice A3 n3 k3)) := by
  have x0 := hx.set 0 (.int .i64 x.stack)
  have x1 := x0.set 1 (.int .i64 x.start)
  have x2 := x1.set 2 (.slice A0 n0 k0)
  have x3 := x2.set 3 (.slice A1 n1 k1)
  have x4 := x3.set 4 (.slice A2 n2 k2)
  have x5 := x4.set 5 (.slice A3 n3 k3)
  have e0 := keepE (ck_ok _) h (Below.refl _ _) hne 0 (.int .i64 x.stack)
  have e1 := keepE (ck_ok _) e0 (Below.refl _ _) hne 1 (.int .i64 x.start)
  have e2 := keepE (ck_ok _) e1 (Below.refl _ _) hne 2 (.slice A0 n0 k0)
  have e3 := keepE (ck_ok _) e2 (Below.refl _ _) hne 3 (.slice A1 n1 k1)
  have e4 := keepE (ck_ok _) e3 (Below.refl _ _) hne 4 (.slice A2 n2 k2)
  have e5 := keepE (ck_ok _) e4 (Below.refl _ _) hne 5 (.slice A3 n3 k3)
  exact ⟨b, base, _, _, _, _, _, _, _, _, _, _, _, _, _, rfl, rfl, e5, x5, ((((((hB.setCell (p := ⟨b, 0, none⟩) hlo (.int .i64 x.stack)).setCell (p := ⟨b, 1, none⟩) hlo (.int .i64 x.start)).setCell (p := ⟨b, 2, none⟩) hlo (.slice A0 n0 k0)).setCell (p := ⟨b, 3, none⟩) hlo (.slice A1 n1 k1)).setCell (p := ⟨b, 4, none⟩) hlo (.slice A2 n2 k2)).setCell (p := ⟨b, 5, none⟩) hlo (.slice A3 n3 k3))⟩

set_option maxHeartbeats 25600000 in
set_option maxRecDepth 100000 in
theorem FnExactEitherCheckers_walk (u0 : Value) (a0 : Ck) (u1 : Value) (a1 : Ck) (w : World) (w0 : CkR w u0 a0) (w1 : CkR w u1 a1) :
    Calls Try.prog 4 #[u0, u1] w fun e w' => e = .returned (.bool true) ∧ Below w.heap.size w w' := by
  obtain ⟨Ap0_0, np0_0, kp0_0, Ap0_1, np0_1, kp0_1, Ap0_2, np0_2, kp0_2, Ap0_3, np0_3, kp0_3, rfl⟩ := CkR.form w0
  have R0 := Lib.hid w0
  clear w0
  obtain ⟨Ap1_0, np1_0, kp1_0, Ap1_1, np1_1, kp1_1, Ap1_2, np1_2, kp1_2, Ap1_3, np1_3, kp1_3, rfl⟩ := CkR.form w1
  have R1 := Lib.hid w1
  clear w1
  have hB := ((Below.refl w.heap.size w).alloc (Nat.le_refl _) (.cells #[.int .i64 a0.stack, .int .i64 a0.start, .slice Ap0_0 np0_0 kp0_0, .slice Ap0_1 np0_1 kp0_1, .slice Ap0_2 np0_2 kp0_2, .slice Ap0_3 np0_3 kp0_3] 27)).alloc (by simp) (.cells #[.int .i64 a1.stack, .int .i64 a1.start, .slice Ap1_0 np1_0 kp1_0, .slice Ap1_1 np1_1 kp1_1, .slice Ap1_2 np1_2 kp1_2, .slice Ap1_3 np1_3 kp1_3] 27)
  have pb0 := (Bx.new w 27 #[.int .i64 a0.stack, .int .i64 a0.start, .slice Ap0_0 np0_0 kp0_0, .slice Ap0_1 np0_1 kp0_1, .slice Ap0_2 np0_2 kp0_2, .slice Ap0_3 np0_3 kp0_3]).alloc (.cells #[.int .i64 a1.stack, .int .i64 a1.start, .slice Ap1_0 np1_0 kp1_0, .slice Ap1_1 np1_1 kp1_1, .slice Ap1_2 np1_2 kp1_2, .slice Ap1_3 np1_3 kp1_3] 27)
  have pb1 := Bx.new (w.alloc (.cells #[.int .i64 a0.stack, .int .i64 a0.start, .slice Ap0_0 np0_0 kp0_0, .slice Ap0_1 np0_1 kp0_1, .slice Ap0_2 np0_2 kp0_2, .slice Ap0_3 np0_3 kp0_3] 27)) 27 #[.int .i64 a1.stack, .int .i64 a1.start, .slice Ap1_0 np1_0 kp1_0, .slice Ap1_1 np1_1 kp1_1, .slice Ap1_2 np1_2 kp1_2, .slice Ap1_3 np1_3 kp1_3]
  simp only [World.size_alloc] at pb1
  have q0 := fun (W : World) (hw : Below w.heap.size w W) => sz_checker 1048576 W (Nat.le_refl _) (ck_r.later R0.out hw)
  by_cases t0 : cntC a0 ≤ 1048576
  case' neg =>
    simp only [dec_no t0] at q0
    have Q0 := Lib.hid q0
    clear q0 t0
    go_enter Try.func4, Try.ntmps4
    go_wp2_with fail
    refine (Q0.out _ hB).mono ?_
    rintro e w101 ⟨rfl, hb101⟩
    replace pb0 := pb0.later hb101
    replace pb1 := pb1.later hb101
    replace hB := hB.trans (hb101.mono hB.size)
    have z_ := hb101.size
    try simp only [World.size_alloc] at z_
    have Z0 := Lib.hid z_
    clear z_
    go_wp2
    go_ret
    exact ⟨rfl, hB⟩
  have Hbd0 := Lib.hid (bd_of_cnt (show cntC a0 ≤ 1048576 by omega))
  simp only [dec_yes t0] at q0
  obtain ⟨l0, hl0⟩ : ∃ l, l = 1048576 - cntC a0 := ⟨_, rfl⟩
  have ll0 : l0 ≤ 1048576 := by omega
  simp only [← hl0] at q0
  have Q0 := Lib.hid q0
  clear q0 t0 hl0
  have q1 := fun (W : World) (hw : Below w.heap.size w W) => sz_checker l0 W ll0 (ck_r.later R1.out hw)
  by_cases t1 : cntC a1 ≤ l0
  case' neg =>
    simp only [dec_no t1] at q1
    have Q1 := Lib.hid q1
    clear q1 t1
    go_enter Try.func4, Try.ntmps4
    go_wp2_with fail
    refine (Q0.out _ hB).mono ?_
    rintro e w101 ⟨rfl, hb101⟩
    replace pb0 := pb0.later hb101
    replace pb1 := pb1.later hb101
    replace hB := hB.trans (hb101.mono hB.size)
    have z_ := hb101.size
    try simp only [World.size_alloc] at z_
    have Z0 := Lib.hid z_
    clear z_
    obtain ⟨pb1_0, pb1_1, pb1_2, pb1_3, pb1_4, pb1_5, pb1l⟩ := id (Bx.all6 pb1)
    go_wp2_with fail
    refine (Q1.out _ hB).mono ?_
    rintro e w102 ⟨rfl, hb102⟩
    clear pb1_0 pb1_1 pb1_2 pb1_3 pb1_4 pb1_5 pb1l
    replace pb0 := pb0.later hb102
    replace pb1 := pb1.later hb102
    replace hB := hB.trans (hb102.mono hB.size)
    have z_ := hb102.size
    try simp only [World.size_alloc] at z_
    have Z1 := Lib.hid z_
    clear z_
    go_wp2
    go_ret
    exact ⟨rfl, hB⟩
  have Hbd1 := Lib.hid (bd_of_cnt (show cntC a1 ≤ 1048576 by omega))
  simp only [dec_yes t1] at q1
  obtain ⟨l1, hl1⟩ : ∃ l, l = l0 - cntC a1 := ⟨_, rfl⟩
  have ll1 : l1 ≤ 1048576 := by omega
  simp only [← hl1] at q1
  have Q1 := Lib.hid q1
  clear q1 t1 hl1
  obtain ⟨x0, r1, hx0, hS, hI⟩ := both_EitherCheckers a0 a1
  have HS := Lib.hid hS
  have HI := Lib.hid hI
  clear hS hI
  obtain ⟨z0, hz0⟩ : ∃ z, z = 1 + szC a0 := ⟨_, rfl⟩
  obtain ⟨z1, hz1⟩ : ∃ z, z = z0 + szC a1 := ⟨_, rfl⟩
  obtain ⟨k0, hk0⟩ : ∃ k, k = 1 + szC x0 := ⟨_, rfl⟩
  have hm0 := hx0.sum
  have hcs0 := Hbd0.out.sum
  have hcs1 := Hbd1.out.sum
  have lk0 : k0 ≤ 8388608 := by omega
  have lz0 : z0 ≤ 2100001 := by omega
  have lz1 : z1 ≤ 4200002 := by omega
  have Hz0 := Lib.hid hz0
  clear hz0
  have Hz1 := Lib.hid hz1
  clear hz1
  clear hcs0
  clear hcs1
  have Hk0 := Lib.hid hk0
  clear hk0
  have Hx0 := Lib.hid hx0
  clear hx0
  clear hm0
  go_enter Try.func4, Try.ntmps4
  go_wp2_with fail
  refine (Q0.out _ hB).mono ?_
  rintro e w101 ⟨rfl, hb101⟩
  clear Q0
  replace pb0 := pb0.later hb101
  replace pb1 := pb1.later hb101
  replace hB := hB.trans (hb101.mono hB.size)
  have z_ := hb101.size
  try simp only [World.size_alloc] at z_
  have Z0 := Lib.hid z_
  clear z_
  obtain ⟨pb1_0, pb1_1, pb1_2, pb1_3, pb1_4, pb1_5, pb1l⟩ := id (Bx.all6 pb1)
  go_wp2_with fail
  refine (Q1.out _ hB).mono ?_
  rintro e w102 ⟨rfl, hb102⟩
  clear pb1_0 pb1_1 pb1_2 pb1_3 pb1_4 pb1_5 pb1l
  clear Q1
  replace pb0 := pb0.later hb102
  replace pb1 := pb1.later hb102
  replace hB := hB.trans (hb102.mono hB.size)
  have z_ := hb102.size
  try simp only [World.size_alloc] at z_
  have Z1 := Lib.hid z_
  clear z_
  have hR := Below.refl w102.heap.size w102
  have To0 := Lib.hid fun (W : World) (hw : Below w102.heap.size w102 W) => to_checker W Hbd0.out (ck_r.later R0.out (hB.trans (hw.mono hB.size)))
  have To1 := Lib.hid fun (W : World) (hw : Below w102.heap.size w102 W) => to_checker W Hbd1.out (ck_r.later R1.out (hB.trans (hw.mono hB.size)))
  obtain ⟨pb0_0, pb0_1, pb0_2, pb0_3, pb0_4, pb0_5, pb0l⟩ := id (Bx.all6 pb0)
  obtain ⟨pb1_0, pb1_1, pb1_2, pb1_3, pb1_4, pb1_5, pb1l⟩ := id (Bx.all6 pb1)
  go_upto_region 8 with fail
  go_cut [6, 7] (fun p s wx => CutB x0 r1 w102 p s wx)
  case first =>
    clear pb0_0 pb0_1 pb0_2 pb0_3 pb0_4 pb0_5 pb0l pb1_0 pb1_1 pb1_2 pb1_3 pb1_4 pb1_5 pb1l
    refine wp_region_free_float (by kernel_rfl) [
        .val [] (fun _ => .agg #[.int .i64 a0.stack, .int .i64 a0.start, .slice Ap0_0 np0_0 kp0_0, .slice Ap0_1 np0_1 kp0_1, .slice Ap0_2 np0_2 kp0_2, .slice Ap0_3 np0_3 kp0_3]),
        .own (CkE w102.heap.size) a0,
        .val [] (fun _ => .agg #[.int .i64 a1.stack, .int .i64 a1.start, .slice Ap1_0 np1_0 kp1_0, .slice Ap1_1 np1_1 kp1_1, .slice Ap1_2 np1_2 kp1_2, .slice Ap1_3 np1_3 kp1_3]),
        .own (CkE w102.heap.size) a1,
        .own (TupE (CkE w102.heap.size) r1) x0,
        .val [4] (fun u => u 4),
        .val [5] (fun u => fstV (u 5)),
        .val [] (fun _ => .int .i64 r1),
        .own (PtrE w102.heap.size 31 #[.int .i64 0, .int .i64 0, .slice none 0 0, .slice none 0 0, .slice none 0 0, .slice none 0 0]) ()] 9 7 ?hp ?hfw ?deps ?oks ?hfl ?steps ?end1 ?end2
    case hfl => kernel_rfl
    case hp => kernel_rfl
    case hfw => kernel_rfl
    case deps => kernel_rfl
    case oks =>
      intro F hF
      simp only [List.mem_cons, List.not_mem_nil, or_false] at hF
      rcases hF with rfl | rfl | rfl | rfl | rfl | rfl | rfl | rfl | rfl
      · trivial
      · exact ⟨_, ck_ok _⟩
      · trivial
      · exact ⟨_, ck_ok _⟩
      · exact ⟨_, tup_ok (ck_ok _) _⟩
      · trivial
      · trivial
      · trivial
      · exact ⟨_, ptr_ok _ _ _⟩
    case steps =>
      refine Steps.cons ?_ ?_
      · intro _; refine FreeStep.val [] _ rfl rfl fun u β W hW hn fr hfr K hK => ?_
        simp only [frameL, putL, Act.put, List.setIfInBounds_toArray, List.set_cons_zero, List.set_cons_succ, Nat.zero_add, Nat.reduceAdd] at hfr
        subst hfr
        obtain ⟨y0, y1, y2, y3, y4, y5, yl⟩ := id (Bx.all6 (pb0.later hW))
        have HK := Lib.hid hK
        clear hK hn
        go_simp
        have h9 := HK.out
        revert h9
        clear HK
        go_simp
        try exact id
      refine Steps.cons ?_ ?_
      · intro _; refine FreeStep.own (base := w102.heap.size) rfl (ck_ok _) fun u β W hW hn fr hfr K hK => ?_
        simp only [frameL, putL, Act.put, List.setIfInBounds_toArray, List.set_cons_zero, List.set_cons_succ, Nat.zero_add, Nat.reduceAdd] at hfr
        subst hfr
        have e0 : u 0 = .agg #[.int .i64 a0.stack, .int .i64 a0.start, .slice Ap0_0 np0_0 kp0_0, .slice Ap0_1 np0_1 kp0_1, .slice Ap0_2 np0_2 kp0_2, .slice Ap0_3 np0_3 kp0_3] := Have.get (k := 0) hn rfl
        simp only [e0] at hK
        have hsz := hW.size
        have Q := Lib.hid (To0.out W hW)
        have HK := Lib.hid hK
        clear hK hn
        go_simp
        refine Q.out.mono ?_
        rintro e w9 ⟨v9, cs9, rfl, h9, hb9⟩
        exact HK.out v9 cs9 w9 hb9 (ckp_base hsz h9) (fun b hb => ((ck_ok _).lt h9 b hb).1)
      refine Steps.cons ?_ ?_
      · intro _; refine FreeStep.val [] _ rfl rfl fun u β W hW hn fr hfr K hK => ?_
        simp only [frameL, putL, Act.put, List.setIfInBounds_toArray, List.set_cons_zero, List.set_cons_succ, Nat.zero_add, Nat.reduceAdd] at hfr
        subst hfr
        obtain ⟨y0, y1, y2, y3, y4, y5, yl⟩ := id (Bx.all6 (pb1.later hW))
        have HK := Lib.hid hK
        clear hK hn
        go_simp
        have h9 := HK.out
        revert h9
        clear HK
        go_simp
        try exact id
      refine Steps.cons ?_ ?_
      · intro _; refine FreeStep.own (base := w102.heap.size) rfl (ck_ok _) fun u β W hW hn fr hfr K hK => ?_
        simp only [frameL, putL, Act.put, List.setIfInBounds_toArray, List.set_cons_zero, List.set_cons_succ, Nat.zero_add, Nat.reduceAdd] at hfr
        subst hfr
        have e2 : u 2 = .agg #[.int .i64 a1.stack, .int .i64 a1.start, .slice Ap1_0 np1_0 kp1_0, .slice Ap1_1 np1_1 kp1_1, .slice Ap1_2 np1_2 kp1_2, .slice Ap1_3 np1_3 kp1_3] := Have.get (k := 2) hn rfl
        simp only [e2] at hK
        have hsz := hW.size
        have Q := Lib.hid (To1.out W hW)
        have HK := Lib.hid hK
        clear hK hn
        go_simp
        refine Q.out.mono ?_
        rintro e w9 ⟨v9, cs9, rfl, h9, hb9⟩
        exact HK.out v9 cs9 w9 hb9 (ckp_base hsz h9) (fun b hb => ((ck_ok _).lt h9 b hb).1)
      refine Steps.cons ?_ ?_
      · intro _; refine FreeStep.own (base := w102.heap.size) rfl (tup_ok (ck_ok _) _) fun u β W hW hn fr hfr K hK => ?_
        simp only [frameL, putL, Act.put, List.setIfInBounds_toArray, List.set_cons_zero, List.set_cons_succ, Nat.zero_add, Nat.reduceAdd] at hfr
        subst hfr
        have f1 : (CkE w102.heap.size) W (u 1) a0 (β 1) := Have.get (k := 1) hn rfl
        have f3 : (CkE w102.heap.size) W (u 3) a1 (β 3) := Have.get (k := 3) hn rfl
        have hsz := hW.size
        have Q := Lib.hid (HS.out _ _ _ _ _ _ W Hbd0.out Hbd1.out f1 f3)
        have HK := Lib.hid hK
        clear hK hn
        go_simp
        refine Q.out.mono ?_
        rintro e w9 ⟨v9, cs9, rfl, h9, hb9⟩
        exact HK.out _ cs9 w9 hb9 ⟨v9, rfl, ckp_base hsz h9⟩ (fun b hb => ((ck_ok _).lt h9 b hb).1)
      refine Steps.cons ?_ ?_
      · intro _; refine FreeStep.val [4] _ rfl rfl fun u β W hW hn fr hfr K hK => ?_
        simp only [frameL, putL, Act.put, List.setIfInBounds_toArray, List.set_cons_zero, List.set_cons_succ, Nat.zero_add, Nat.reduceAdd] at hfr
        subst hfr
        have f4 : (TupE (CkE w102.heap.size) r1) W (u 4) x0 (β 4) := Have.get (k := 4) hn rfl
        have hon4 : only [4] u 4 = u 4 := rfl
        simp only [hon4] at hK
        have HK := Lib.hid hK
        clear hK hn hon4
        go_simp
        exact HK.out
      refine Steps.cons ?_ ?_
      · intro _; refine FreeStep.val [5] _ rfl rfl fun u β W hW hn fr hfr K hK => ?_
        simp only [frameL, putL, Act.put, List.setIfInBounds_toArray, List.set_cons_zero, List.set_cons_succ, Nat.zero_add, Nat.reduceAdd] at hfr
        subst hfr
        have e5 := Have.get (k := 5) hn rfl
        have e5_ : u 5 = u 4 := e5
        clear e5
        have f4 : (TupE (CkE w102.heap.size) r1) W (u 4) x0 (β 4) := Have.get (k := 4) hn rfl
        obtain ⟨v4, g4, _⟩ := f4
        have hon5 : only [5] u 5 = u 5 := rfl
        simp only [hon5, e5_, g4, fst_tup] at hK
        have HK := Lib.hid hK
        clear hK hn hon5
        simp only [e5_, g4]
        go_simp
        exact HK.out
      refine Steps.cons ?_ ?_
      · intro _; refine FreeStep.val [] _ rfl rfl fun u β W hW hn fr hfr K hK => ?_
        simp only [frameL, putL, Act.put, List.setIfInBounds_toArray, List.set_cons_zero, List.set_cons_succ, Nat.zero_add, Nat.reduceAdd] at hfr
        subst hfr
        have e5 := Have.get (k := 5) hn rfl
        have e5_ : u 5 = u 4 := e5
        clear e5
        have f4 : (TupE (CkE w102.heap.size) r1) W (u 4) x0 (β 4) := Have.get (k := 4) hn rfl
        obtain ⟨v4, g4, _⟩ := f4
        simp only [e5_, g4] at hK
        have HK := Lib.hid hK
        clear hK hn
        simp only [e5_, g4]
        go_simp
        have h9 := HK.out
        revert h9
        clear HK
        go_simp
        try exact id
      refine Steps.cons ?_ ?_
      · intro _; refine FreeStep.own (base := w102.heap.size) rfl (ptr_ok _ _ _) fun u β W hW hn fr hfr K hK => ?_
        simp only [frameL, putL, Act.put, List.setIfInBounds_toArray, List.set_cons_zero, List.set_cons_succ, Nat.zero_add, Nat.reduceAdd] at hfr
        subst hfr
        have hsz := hW.size
        have HK := Lib.hid hK
        clear hK hn
        go_simp
        exact HK.out _ [W.heap.size] _ ((Below.refl _ _).alloc (Nat.le_refl _) _) ⟨W.heap.size, rfl, Bx.new _ _ _, rfl, hsz⟩ (fun b hb => by rw [List.mem_singleton.1 hb]; exact Nat.le_refl _)
      refine Steps.cons ?_ ?_
      · exact fun h => absurd h (by decide)
      refine Steps.cons ?_ ?_
      · exact fun h => absurd h (by decide)
      exact Steps.nil
    case end1 =>
      intro u β W hW hn hdis hbnd fr hfr
      simp only [frameL, putL, Act.put, List.setIfInBounds_toArray, List.set_cons_zero, List.set_cons_succ, Nat.zero_add, Nat.reduceAdd] at hfr
      subst hfr
      have z0 : u 0 = .agg #[.int .i64 a0.stack, .int .i64 a0.start, .slice Ap0_0 np0_0 kp0_0, .slice Ap0_1 np0_1 kp0_1, .slice Ap0_2 np0_2 kp0_2, .slice Ap0_3 np0_3 kp0_3] := Have.get (k := 0) hn rfl
      have f1 : (CkE w102.heap.size) W (u 1) a0 (β 1) := Have.get (k := 1) hn rfl
      have z2 : u 2 = .agg #[.int .i64 a1.stack, .int .i64 a1.start, .slice Ap1_0 np1_0 kp1_0, .slice Ap1_1 np1_1 kp1_1, .slice Ap1_2 np1_2 kp1_2, .slice Ap1_3 np1_3 kp1_3] := Have.get (k := 2) hn rfl
      have f3 : (CkE w102.heap.size) W (u 3) a1 (β 3) := Have.get (k := 3) hn rfl
      have f4 : (TupE (CkE w102.heap.size) r1) W (u 4) x0 (β 4) := Have.get (k := 4) hn rfl
      have z5 : u 5 = u 4 := Have.get (k := 5) hn rfl
      have z6 : u 6 = fstV (u 5) := Have.get (k := 6) hn rfl
      have z7 : u 7 = .int .i64 r1 := Have.get (k := 7) hn rfl
      have f8 : (PtrE w102.heap.size 31 #[.int .i64 0, .int .i64 0, .slice none 0 0, .slice none 0 0, .slice none 0 0, .slice none 0 0]) W (u 8) () (β 8) := Have.get (k := 8) hn rfl
      clear hn
      show wpOps _ _ _ [9, 10] _ _
      obtain ⟨v4, g4, h4⟩ := f4
      obtain ⟨bq, g8, hbq, e8, hlo⟩ := f8
      have hne : ∀ k ∈ β 4, k ≠ bq := fun k hk e => hdis 4 8 (by decide) (by decide) (by decide) (by decide) (by decide) k hk (by rw [e8, e]; simp)
      obtain ⟨AZ_0, nZ_0, kZ_0, AZ_1, nZ_1, kZ_1, AZ_2, nZ_2, kZ_2, AZ_3, nZ_3, kZ_3, rfl⟩ := h4.form
      have z6' : u 6 = .agg #[.int .i64 x0.stack, .int .i64 x0.start, .slice AZ_0 nZ_0 kZ_0, .slice AZ_1 nZ_1 kZ_1, .slice AZ_2 nZ_2 kZ_2, .slice AZ_3 nZ_3 kZ_3] := by rw [z6, z5, g4]; rfl
      simp only [g8, z6', z7]
      have HF := Lib.hid (And.intro h4 (And.intro hne (And.intro hlo (And.intro hbq hW))))
      obtain ⟨y0, y1, y2, y3, y4, y5, yl⟩ := id (Bx.all6 hbq)
      have q0 := hbq.frozen 0
      have q1 := hbq.frozen 1
      have q2 := hbq.frozen 2
      have q3 := hbq.frozen 3
      have q4 := hbq.frozen 4
      have q5 := hbq.frozen 5
      clear h4 hne hlo hbq hW
      rw [wpOps_cons]
      refine wpOp_step rfl (fun K hK => ?_)
      have HK := Lib.hid hK
      clear hK
      go_simp
      refine HK.out _ _ ?_
      clear HK
      clear y0 y1 y2 y3 y4 y5 yl q0 q1 q2 q3 q4 q5
      rw [wpOps_cons]
      refine wpOp_step rfl (fun K hK => ?_)
      have HK := Lib.hid hK
      clear hK
      go_simp
      refine HK.out _ _ ?_
      clear HK
      unfold wpOps
      go_wp2_with fail
      go_meet
      exact cutB_old HF.out.1 HF.out.2.1 HF.out.2.2.1 HF.out.2.2.2.1 HF.out.2.2.2.2
    case end2 =>
      intro u β W hW hn hdis hbnd fr hfr
      simp only [frameL, putL, Act.put, List.setIfInBounds_toArray, List.set_cons_zero, List.set_cons_succ, Nat.zero_add, Nat.reduceAdd] at hfr
      subst hfr
      have z0 : u 0 = .agg #[.int .i64 a0.stack, .int .i64 a0.start, .slice Ap0_0 np0_0 kp0_0, .slice Ap0_1 np0_1 kp0_1, .slice Ap0_2 np0_2 kp0_2, .slice Ap0_3 np0_3 kp0_3] := Have.get (k := 0) hn rfl
      have f1 : (CkE w102.heap.size) W (u 1) a0 (β 1) := Have.get (k := 1) hn rfl
      have z2 : u 2 = .agg #[.int .i64 a1.stack, .int .i64 a1.start, .slice Ap1_0 np1_0 kp1_0, .slice Ap1_1 np1_1 kp1_1, .slice Ap1_2 np1_2 kp1_2, .slice Ap1_3 np1_3 kp1_3] := Have.get (k := 2) hn rfl
      have f3 : (CkE w102.heap.size) W (u 3) a1 (β 3) := Have.get (k := 3) hn rfl
      have f4 : (TupE (CkE w102.heap.size) r1) W (u 4) x0 (β 4) := Have.get (k := 4) hn rfl
      have z5 : u 5 = u 4 := Have.get (k := 5) hn rfl
      have z6 : u 6 = fstV (u 5) := Have.get (k := 6) hn rfl
      have f8 : (PtrE w102.heap.size 31 #[.int .i64 0, .int .i64 0, .slice none 0 0, .slice none 0 0, .slice none 0 0, .slice none 0 0]) W (u 8) () (β 8) := Have.get (k := 8) hn rfl
      clear hn
      show wpOps _ _ _ [9, 7, 10] _ _
      obtain ⟨v4, g4, h4⟩ := f4
      obtain ⟨bq, g8, hbq, e8, hlo⟩ := f8
      have hne : ∀ k ∈ β 4, k ≠ bq := fun k hk e => hdis 4 8 (by decide) (by decide) (by decide) (by decide) (by decide) k hk (by rw [e8, e]; simp)
      obtain ⟨AZ_0, nZ_0, kZ_0, AZ_1, nZ_1, kZ_1, AZ_2, nZ_2, kZ_2, AZ_3, nZ_3, kZ_3, rfl⟩ := h4.form
      have z6' : u 6 = .agg #[.int .i64 x0.stack, .int .i64 x0.start, .slice AZ_0 nZ_0 kZ_0, .slice AZ_1 nZ_1 kZ_1, .slice AZ_2 nZ_2 kZ_2, .slice AZ_3 nZ_3 kZ_3] := by rw [z6, z5, g4]; rfl
      simp only [g8, z6']
      have HF := Lib.hid (And.intro h4 (And.intro hne (And.intro hlo (And.intro hbq hW))))
      have z5' := z5.trans g4
      simp only [z5']
      obtain ⟨y0, y1, y2, y3, y4, y5, yl⟩ := id (Bx.all6 hbq)
      have q0 := hbq.frozen 0
      have q1 := hbq.frozen 1
      have q2 := hbq.frozen 2
      have q3 := hbq.frozen 3
      have q4 := hbq.frozen 4
      have q5 := hbq.frozen 5
      clear h4 hne hlo hbq hW
      rw [wpOps_cons]
      refine wpOp_step rfl (fun K hK => ?_)
      have HK := Lib.hid hK
      clear hK
      go_simp
      refine HK.out _ _ ?_
      clear HK
      clear y0 y1 y2 y3 y4 y5 yl q0 q1 q2 q3 q4 q5
      rw [wpOps_cons]
      refine wpOp_step rfl (fun K hK => ?_)
      have HK := Lib.hid hK
      clear hK
      go_simp
      refine HK.out _ _ ?_
      clear HK
      rw [wpOps_cons]
      refine wpOp_step rfl (fun K hK => ?_)
      have HK := Lib.hid hK
      clear hK
      go_simp
      refine HK.out _ _ ?_
      clear HK
      unfold wpOps
      go_wp2_with fail
      go_meet
      exact cutB_old HF.out.1 HF.out.2.1 HF.out.2.2.1 HF.out.2.2.2.1 HF.out.2.2.2.2
  case rest =>
    obtain ⟨Sx, Sb, ASb0_0, nSb0_0, kSb0_0, ASb0_1, nSb0_1, kSb0_1, ASb0_2, nSb0_2, kSb0_2, ASb0_3, nSb0_3, kSb0_3, Sbs0, rfl, rfl, SE0, Sb0, hwc⟩ := hcut
    clear pb0_0 pb0_1 pb0_2 pb0_3 pb0_4 pb0_5 pb0l pb1_0 pb1_1 pb1_2 pb1_3 pb1_4 pb1_5 pb1l
    clear hR To0 To1
    replace pb0 := pb0.later hwc
    replace pb1 := pb1.later hwc
    replace hB := hB.trans (hwc.mono hB.size)
    have z_ := hwc.size
    try simp only [World.size_alloc] at z_
    have Z2 := Lib.hid z_
    clear z_
    have t_ := (ck_ok _).lt SE0
    try simp only [World.size_alloc] at t_
    have TSbs0 := Lib.hid t_
    clear t_
    have z_ := Nat.le_of_lt Sb0.lt
    try simp only [World.size_alloc] at z_
    have Z3 := Lib.hid z_
    clear z_
    have z_ := Sb0.lt
    try simp only [World.size_alloc] at z_
    have Z4 := Lib.hid z_
    clear z_
    obtain ⟨pb0_0, pb0_1, pb0_2, pb0_3, pb0_4, pb0_5, pb0l⟩ := id (Bx.all6 pb0)
    go_wp2_with fail
    refine (to_checker _ Hbd0.out (ck_r.later R0.out hB)).mono ?_
    rintro e w103 ⟨vx0, bsx0, rfl, Ex0, hb103⟩
    clear pb0_0 pb0_1 pb0_2 pb0_3 pb0_4 pb0_5 pb0l
    replace SE0 := (ck_ok _).later SE0 hb103
    replace pb0 := pb0.later hb103
    replace pb1 := pb1.later hb103
    replace Sb0 := Sb0.later hb103
    replace hB := hB.trans (hb103.mono hB.size)
    have z_ := hb103.size
    try simp only [World.size_alloc] at z_
    have Z5 := Lib.hid z_
    clear z_
    have t_ := (ck_ok _).lt Ex0
    try simp only [World.size_alloc] at t_
    have Tbsx0 := Lib.hid t_
    clear t_
    obtain ⟨Axb0_0, nxb0_0, kxb0_0, Axb0_1, nxb0_1, kxb0_1, Axb0_2, nxb0_2, kxb0_2, Axb0_3, nxb0_3, kxb0_3, rfl⟩ := Ex0.form
    have hnxb0 := (Below.refl _ w103).alloc (Nat.le_refl _) (.cells #[.int .i64 a0.stack, .int .i64 a0.start, .slice Axb0_0 nxb0_0 kxb0_0, .slice Axb0_1 nxb0_1 kxb0_1, .slice Axb0_2 nxb0_2 kxb0_2, .slice Axb0_3 nxb0_3 kxb0_3] 31)
    have xb0 := Bx.new w103 31 #[.int .i64 a0.stack, .int .i64 a0.start, .slice Axb0_0 nxb0_0 kxb0_0, .slice Axb0_1 nxb0_1 kxb0_1, .slice Axb0_2 nxb0_2 kxb0_2, .slice Axb0_3 nxb0_3 kxb0_3]
    replace SE0 := (ck_ok _).later SE0 hnxb0
    replace Ex0 := (ck_ok _).later Ex0 hnxb0
    replace pb0 := pb0.later hnxb0
    replace pb1 := pb1.later hnxb0
    replace Sb0 := Sb0.later hnxb0
    replace hB := hB.alloc hB.size (.cells #[.int .i64 a0.stack, .int .i64 a0.start, .slice Axb0_0 nxb0_0 kxb0_0, .slice Axb0_1 nxb0_1 kxb0_1, .slice Axb0_2 nxb0_2 kxb0_2, .slice Axb0_3 nxb0_3 kxb0_3] 31)
    obtain ⟨pb1_0, pb1_1, pb1_2, pb1_3, pb1_4, pb1_5, pb1l⟩ := id (Bx.all6 pb1)
    go_wp2_with fail
    refine (to_checker _ Hbd1.out (ck_r.later R1.out hB)).mono ?_
    rintro e w104 ⟨vx1, bsx1, rfl, Ex1, hb104⟩
    clear pb1_0 pb1_1 pb1_2 pb1_3 pb1_4 pb1_5 pb1l
    replace SE0 := (ck_ok _).later SE0 hb104
    replace Ex0 := (ck_ok _).later Ex0 hb104
    replace pb0 := pb0.later hb104
    replace pb1 := pb1.later hb104
    replace Sb0 := Sb0.later hb104
    replace xb0 := xb0.later hb104
    replace hB := hB.trans (hb104.mono hB.size)
    have z_ := hb104.size
    try simp only [World.size_alloc] at z_
    have Z6 := Lib.hid z_
    clear z_
    have t_ := (ck_ok _).lt Ex1
    try simp only [World.size_alloc] at t_
    have Tbsx1 := Lib.hid t_
    clear t_
    obtain ⟨Axb1_0, nxb1_0, kxb1_0, Axb1_1, nxb1_1, kxb1_1, Axb1_2, nxb1_2, kxb1_2, Axb1_3, nxb1_3, kxb1_3, rfl⟩ := Ex1.form
    have hnxb1 := (Below.refl _ w104).alloc (Nat.le_refl _) (.cells #[.int .i64 a1.stack, .int .i64 a1.start, .slice Axb1_0 nxb1_0 kxb1_0, .slice Axb1_1 nxb1_1 kxb1_1, .slice Axb1_2 nxb1_2 kxb1_2, .slice Axb1_3 nxb1_3 kxb1_3] 31)
    have xb1 := Bx.new w104 31 #[.int .i64 a1.stack, .int .i64 a1.start, .slice Axb1_0 nxb1_0 kxb1_0, .slice Axb1_1 nxb1_1 kxb1_1, .slice Axb1_2 nxb1_2 kxb1_2, .slice Axb1_3 nxb1_3 kxb1_3]
    replace SE0 := (ck_ok _).later SE0 hnxb1
    replace Ex0 := (ck_ok _).later Ex0 hnxb1
    replace Ex1 := (ck_ok _).later Ex1 hnxb1
    replace pb0 := pb0.later hnxb1
    replace pb1 := pb1.later hnxb1
    replace Sb0 := Sb0.later hnxb1
    replace xb0 := xb0.later hnxb1
    replace hB := hB.alloc hB.size (.cells #[.int .i64 a1.stack, .int .i64 a1.start, .slice Axb1_0 nxb1_0 kxb1_0, .slice Axb1_1 nxb1_1 kxb1_1, .slice Axb1_2 nxb1_2 kxb1_2, .slice Axb1_3 nxb1_3 kxb1_3] 31)
    obtain ⟨xb0_0, xb0_1, xb0_2, xb0_3, xb0_4, xb0_5, xb0l⟩ := id (Bx.all6 xb0)
    obtain ⟨xb1_0, xb1_1, xb1_2, xb1_3, xb1_4, xb1_5, xb1l⟩ := id (Bx.all6 xb1)
    go_wp2_with fail
    refine (HI.out _ _ _ _ _ _ _ Hbd0.out Hbd1.out Ex0 Ex1).mono ?_
    rintro e w105 ⟨Gv0, Gbs0, rfl, GE0, hb105⟩
    clear xb0_0 xb0_1 xb0_2 xb0_3 xb0_4 xb0_5 xb0l xb1_0 xb1_1 xb1_2 xb1_3 xb1_4 xb1_5 xb1l
    replace SE0 := (ck_ok _).later SE0 hb105
    replace Ex0 := (ck_ok _).later Ex0 hb105
    replace Ex1 := (ck_ok _).later Ex1 hb105
    replace pb0 := pb0.later hb105
    replace pb1 := pb1.later hb105
    replace Sb0 := Sb0.later hb105
    replace xb0 := xb0.later hb105
    replace xb1 := xb1.later hb105
    replace hB := hB.trans (hb105.mono hB.size)
    have z_ := hb105.size
    try simp only [World.size_alloc] at z_
    have Z7 := Lib.hid z_
    clear z_
    have t_ := (ck_ok _).lt GE0
    try simp only [World.size_alloc] at t_
    have TGbs0 := Lib.hid t_
    clear t_
    obtain ⟨AGb0_0, nGb0_0, kGb0_0, AGb0_1, nGb0_1, kGb0_1, AGb0_2, nGb0_2, kGb0_2, AGb0_3, nGb0_3, kGb0_3, rfl⟩ := GE0.form
    have hnGb0 := (Below.refl _ w105).alloc (Nat.le_refl _) (.cells #[.int .i64 x0.stack, .int .i64 x0.start, .slice AGb0_0 nGb0_0 kGb0_0, .slice AGb0_1 nGb0_1 kGb0_1, .slice AGb0_2 nGb0_2 kGb0_2, .slice AGb0_3 nGb0_3 kGb0_3] 31)
    have Gb0 := Bx.new w105 31 #[.int .i64 x0.stack, .int .i64 x0.start, .slice AGb0_0 nGb0_0 kGb0_0, .slice AGb0_1 nGb0_1 kGb0_1, .slice AGb0_2 nGb0_2 kGb0_2, .slice AGb0_3 nGb0_3 kGb0_3]
    replace SE0 := (ck_ok _).later SE0 hnGb0
    replace Ex0 := (ck_ok _).later Ex0 hnGb0
    replace Ex1 := (ck_ok _).later Ex1 hnGb0
    replace GE0 := (ck_ok _).later GE0 hnGb0
    replace pb0 := pb0.later hnGb0
    replace pb1 := pb1.later hnGb0
    replace Sb0 := Sb0.later hnGb0
    replace xb0 := xb0.later hnGb0
    replace xb1 := xb1.later hnGb0
    replace hB := hB.alloc hB.size (.cells #[.int .i64 x0.stack, .int .i64 x0.start, .slice AGb0_0 nGb0_0 kGb0_0, .slice AGb0_1 nGb0_1 kGb0_1, .slice AGb0_2 nGb0_2 kGb0_2, .slice AGb0_3 nGb0_3 kGb0_3] 31)
    obtain ⟨Gb0_0, Gb0_1, Gb0_2, Gb0_3, Gb0_4, Gb0_5, Gb0l⟩ := id (Bx.all6 Gb0)
    obtain ⟨Sb0_0, Sb0_1, Sb0_2, Sb0_3, Sb0_4, Sb0_5, Sb0l⟩ := id (Bx.all6 Sb0)
    go_wp2_with fail
    refine (eq_checker _ Hx0.out GE0 SE0).mono ?_
    rintro e w106 ⟨rfl, hb106⟩
    clear Gb0_0 Gb0_1 Gb0_2 Gb0_3 Gb0_4 Gb0_5 Gb0l Sb0_0 Sb0_1 Sb0_2 Sb0_3 Sb0_4 Sb0_5 Sb0l
    replace SE0 := (ck_ok _).later SE0 hb106
    replace Ex0 := (ck_ok _).later Ex0 hb106
    replace Ex1 := (ck_ok _).later Ex1 hb106
    replace GE0 := (ck_ok _).later GE0 hb106
    replace pb0 := pb0.later hb106
    replace pb1 := pb1.later hb106
    replace Sb0 := Sb0.later hb106
    replace xb0 := xb0.later hb106
    replace xb1 := xb1.later hb106
    replace Gb0 := Gb0.later hb106
    replace hB := hB.trans (hb106.mono hB.size)
    have z_ := hb106.size
    try simp only [World.size_alloc] at z_
    have Z8 := Lib.hid z_
    clear z_
    have hR := Below.refl w106.heap.size w106
    have Hto := Lib.hid fun (W : World) (hw : Below w106.heap.size w106 W) => to_checker W Hbd0.out (ck_r.later R0.out (hB.trans (hw.mono hB.size)))
    have Heq := Lib.hid fun (W : World) (hw : Below w106.heap.size w106 W) (base : Nat) (v' : Value) (bs : List Nat) (h : CkE base W v' a0 bs) => eq_checker W Hbd0.out ((ck_ok _).later Ex0 hw) h
    obtain ⟨pb0_0, pb0_1, pb0_2, pb0_3, pb0_4, pb0_5, pb0l⟩ := id (Bx.all6 pb0)
    obtain ⟨xb0_0, xb0_1, xb0_2, xb0_3, xb0_4, xb0_5, xb0l⟩ := id (Bx.all6 xb0)
    go_upto_region 14 with fail
    go_cut [58] (fun sr wx => sr = .bool false ∧ Below w106.heap.size w106 wx)
    case first =>
      go_region_with (first
        | (go_at_call 13
           refine (Hto.out _ (by first | exact hR.drew | exact hR)).mono ?_
           rintro e wt ⟨vt, bst, rfl, Et, hbt⟩
           have hwt : Below w106.heap.size w106 wt := by first | exact hR.drew.trans (hbt.mono hR.drew.size) | exact hbt
           obtain ⟨y0, y1, y2, y3, y4, y5, yl⟩ := id (Bx.all6 (xb0.later hwt)))
        | (go_at_call 15
           refine (Heq.out _ hwt _ _ _ Et).mono ?_
           rintro e wu ⟨rfl, hbu⟩
           have hwu := hwt.trans (hbu.mono hwt.size)))
      all_goals
        go_wp2_with fail
        go_meet
        exact ⟨rfl, hwu⟩
    case rest =>
      obtain ⟨rfl, hwc⟩ := hcut
      clear pb0_0 pb0_1 pb0_2 pb0_3 pb0_4 pb0_5 pb0l xb0_0 xb0_1 xb0_2 xb0_3 xb0_4 xb0_5 xb0l
      clear hR Hto Heq
      replace SE0 := (ck_ok _).later SE0 hwc
      replace Ex0 := (ck_ok _).later Ex0 hwc
      replace Ex1 := (ck_ok _).later Ex1 hwc
      replace GE0 := (ck_ok _).later GE0 hwc
      replace pb0 := pb0.later hwc
      replace pb1 := pb1.later hwc
      replace Sb0 := Sb0.later hwc
      replace xb0 := xb0.later hwc
      replace xb1 := xb1.later hwc
      replace Gb0 := Gb0.later hwc
      replace hB := hB.trans (hwc.mono hB.size)
      have z_ := hwc.size
      try simp only [World.size_alloc] at z_
      have Z9 := Lib.hid z_
      clear z_
      have hR := Below.refl wc.heap.size wc
      have Hto := Lib.hid fun (W : World) (hw : Below wc.heap.size wc W) => to_checker W Hbd1.out (ck_r.later R1.out (hB.trans (hw.mono hB.size)))
      have Heq := Lib.hid fun (W : World) (hw : Below wc.heap.size wc W) (base : Nat) (v' : Value) (bs : List Nat) (h : CkE base W v' a1 bs) => eq_checker W Hbd1.out ((ck_ok _).later Ex1 hw) h
      obtain ⟨pb1_0, pb1_1, pb1_2, pb1_3, pb1_4, pb1_5, pb1l⟩ := id (Bx.all6 pb1)
      obtain ⟨xb1_0, xb1_1, xb1_2, xb1_3, xb1_4, xb1_5, xb1l⟩ := id (Bx.all6 xb1)
      go_upto_region 16 with fail
      go_cut [63] (fun sr wx => sr = .bool false ∧ Below wc.heap.size wc wx)
      case first =>
        go_region_with (first
          | (go_at_call 13
             refine (Hto.out _ (by first | exact hR.drew | exact hR)).mono ?_
             rintro e wt ⟨vt, bst, rfl, Et, hbt⟩
             have hwt : Below wc.heap.size wc wt := by first | exact hR.drew.trans (hbt.mono hR.drew.size) | exact hbt
             obtain ⟨y0, y1, y2, y3, y4, y5, yl⟩ := id (Bx.all6 (xb1.later hwt)))
          | (go_at_call 15
             refine (Heq.out _ hwt _ _ _ Et).mono ?_
             rintro e wu ⟨rfl, hbu⟩
             have hwu := hwt.trans (hbu.mono hwt.size)))
        all_goals
          go_wp2_with fail
          go_meet
          exact ⟨rfl, hwu⟩
      case rest =>
        obtain ⟨rfl, hwc⟩ := hcut
        clear pb1_0 pb1_1 pb1_2 pb1_3 pb1_4 pb1_5 pb1l xb1_0 xb1_1 xb1_2 xb1_3 xb1_4 xb1_5 xb1l
        clear hR Hto Heq
        replace SE0 := (ck_ok _).later SE0 hwc
        replace Ex0 := (ck_ok _).later Ex0 hwc
        replace Ex1 := (ck_ok _).later Ex1 hwc
        replace GE0 := (ck_ok _).later GE0 hwc
        replace pb0 := pb0.later hwc
        replace pb1 := pb1.later hwc
        replace Sb0 := Sb0.later hwc
        replace xb0 := xb0.later hwc
        replace xb1 := xb1.later hwc
        replace Gb0 := Gb0.later hwc
        replace hB := hB.trans (hwc.mono hB.size)
        have z_ := hwc.size
        try simp only [World.size_alloc] at z_
        have Z10 := Lib.hid z_
        clear z_
        obtain ⟨xb0_0, xb0_1, xb0_2, xb0_3, xb0_4, xb0_5, xb0l⟩ := id (Bx.all6 xb0)
        have mx := mark_checker 1 _ Hbd0.out (by omega) Ex0
        rw [← Hz0.out] at mx
        have Mx := Lib.hid mx
        clear mx
        go_wp2_with fail
        refine Mx.out.mono ?_
        rintro e w107 ⟨rfl, Ex0', ht107⟩
        clear Mx
        clear xb0_0 xb0_1 xb0_2 xb0_3 xb0_4 xb0_5 xb0l
        clear Ex0
        clear Ex0'
        clear xb0
        replace SE0 := (ck_ok _).off SE0 ht107 (fun b h1 h2 => by have zz0 := Z0.out; have zz1 := Z1.out; have zz2 := Z2.out; have zz3 := Z3.out; have zz4 := Z4.out; have zz5 := Z5.out; have zz6 := Z6.out; have zz7 := Z7.out; have zz8 := Z8.out; have zz9 := Z9.out; have zz10 := Z10.out; have t1 := TSbs0.out b h1; have t2 := Tbsx0.out b h2; omega)
        replace Ex1 := (ck_ok _).off Ex1 ht107 (fun b h1 h2 => by have zz0 := Z0.out; have zz1 := Z1.out; have zz2 := Z2.out; have zz3 := Z3.out; have zz4 := Z4.out; have zz5 := Z5.out; have zz6 := Z6.out; have zz7 := Z7.out; have zz8 := Z8.out; have zz9 := Z9.out; have zz10 := Z10.out; have t1 := Tbsx1.out b h1; have t2 := Tbsx0.out b h2; omega)
        replace GE0 := (ck_ok _).off GE0 ht107 (fun b h1 h2 => by have zz0 := Z0.out; have zz1 := Z1.out; have zz2 := Z2.out; have zz3 := Z3.out; have zz4 := Z4.out; have zz5 := Z5.out; have zz6 := Z6.out; have zz7 := Z7.out; have zz8 := Z8.out; have zz9 := Z9.out; have zz10 := Z10.out; have t1 := TGbs0.out b h1; have t2 := Tbsx0.out b h2; omega)
        replace pb0 := pb0.off ht107 (fun h => by have zz0 := Z0.out; have zz1 := Z1.out; have zz2 := Z2.out; have zz3 := Z3.out; have zz4 := Z4.out; have zz5 := Z5.out; have zz6 := Z6.out; have zz7 := Z7.out; have zz8 := Z8.out; have zz9 := Z9.out; have zz10 := Z10.out; have t2 := Tbsx0.out _ h; omega)
        replace pb1 := pb1.off ht107 (fun h => by have zz0 := Z0.out; have zz1 := Z1.out; have zz2 := Z2.out; have zz3 := Z3.out; have zz4 := Z4.out; have zz5 := Z5.out; have zz6 := Z6.out; have zz7 := Z7.out; have zz8 := Z8.out; have zz9 := Z9.out; have zz10 := Z10.out; have t2 := Tbsx0.out _ h; omega)
        replace Sb0 := Sb0.off ht107 (fun h => by have zz0 := Z0.out; have zz1 := Z1.out; have zz2 := Z2.out; have zz3 := Z3.out; have zz4 := Z4.out; have zz5 := Z5.out; have zz6 := Z6.out; have zz7 := Z7.out; have zz8 := Z8.out; have zz9 := Z9.out; have zz10 := Z10.out; have t2 := Tbsx0.out _ h; omega)
        replace xb1 := xb1.off ht107 (fun h => by have zz0 := Z0.out; have zz1 := Z1.out; have zz2 := Z2.out; have zz3 := Z3.out; have zz4 := Z4.out; have zz5 := Z5.out; have zz6 := Z6.out; have zz7 := Z7.out; have zz8 := Z8.out; have zz9 := Z9.out; have zz10 := Z10.out; have t2 := Tbsx0.out _ h; omega)
        replace Gb0 := Gb0.off ht107 (fun h => by have zz0 := Z0.out; have zz1 := Z1.out; have zz2 := Z2.out; have zz3 := Z3.out; have zz4 := Z4.out; have zz5 := Z5.out; have zz6 := Z6.out; have zz7 := Z7.out; have zz8 := Z8.out; have zz9 := Z9.out; have zz10 := Z10.out; have t2 := Tbsx0.out _ h; omega)
        replace hB := ht107.below hB hB.size (fun b h => by have zz0 := Z0.out; have zz1 := Z1.out; have zz2 := Z2.out; have zz3 := Z3.out; have zz4 := Z4.out; have zz5 := Z5.out; have zz6 := Z6.out; have zz7 := Z7.out; have zz8 := Z8.out; have zz9 := Z9.out; have zz10 := Z10.out; have t2 := Tbsx0.out b h; omega)
        have z_ := ht107.size
        try simp only [World.size_alloc] at z_
        have Z11 := Lib.hid z_
        clear z_
        obtain ⟨xb1_0, xb1_1, xb1_2, xb1_3, xb1_4, xb1_5, xb1l⟩ := id (Bx.all6 xb1)
        have mx := mark_checker z0 _ Hbd1.out (by omega) Ex1
        rw [← Hz1.out] at mx
        have Mx := Lib.hid mx
        clear mx
        go_wp2_with fail
        refine Mx.out.mono ?_
        rintro e w108 ⟨rfl, Ex1', ht108⟩
        clear Mx
        clear xb1_0 xb1_1 xb1_2 xb1_3 xb1_4 xb1_5 xb1l
        clear Ex1
        clear Ex1'
        clear xb1
        replace SE0 := (ck_ok _).off SE0 ht108 (fun b h1 h2 => by have zz0 := Z0.out; have zz1 := Z1.out; have zz2 := Z2.out; have zz3 := Z3.out; have zz4 := Z4.out; have zz5 := Z5.out; have zz6 := Z6.out; have zz7 := Z7.out; have zz8 := Z8.out; have zz9 := Z9.out; have zz10 := Z10.out; have zz11 := Z11.out; have t1 := TSbs0.out b h1; have t2 := Tbsx1.out b h2; omega)
        replace GE0 := (ck_ok _).off GE0 ht108 (fun b h1 h2 => by have zz0 := Z0.out; have zz1 := Z1.out; have zz2 := Z2.out; have zz3 := Z3.out; have zz4 := Z4.out; have zz5 := Z5.out; have zz6 := Z6.out; have zz7 := Z7.out; have zz8 := Z8.out; have zz9 := Z9.out; have zz10 := Z10.out; have zz11 := Z11.out; have t1 := TGbs0.out b h1; have t2 := Tbsx1.out b h2; omega)
        replace pb0 := pb0.off ht108 (fun h => by have zz0 := Z0.out; have zz1 := Z1.out; have zz2 := Z2.out; have zz3 := Z3.out; have zz4 := Z4.out; have zz5 := Z5.out; have zz6 := Z6.out; have zz7 := Z7.out; have zz8 := Z8.out; have zz9 := Z9.out; have zz10 := Z10.out; have zz11 := Z11.out; have t2 := Tbsx1.out _ h; omega)
        replace pb1 := pb1.off ht108 (fun h => by have zz0 := Z0.out; have zz1 := Z1.out; have zz2 := Z2.out; have zz3 := Z3.out; have zz4 := Z4.out; have zz5 := Z5.out; have zz6 := Z6.out; have zz7 := Z7.out; have zz8 := Z8.out; have zz9 := Z9.out; have zz10 := Z10.out; have zz11 := Z11.out; have t2 := Tbsx1.out _ h; omega)
        replace Sb0 := Sb0.off ht108 (fun h => by have zz0 := Z0.out; have zz1 := Z1.out; have zz2 := Z2.out; have zz3 := Z3.out; have zz4 := Z4.out; have zz5 := Z5.out; have zz6 := Z6.out; have zz7 := Z7.out; have zz8 := Z8.out; have zz9 := Z9.out; have zz10 := Z10.out; have zz11 := Z11.out; have t2 := Tbsx1.out _ h; omega)
        replace Gb0 := Gb0.off ht108 (fun h => by have zz0 := Z0.out; have zz1 := Z1.out; have zz2 := Z2.out; have zz3 := Z3.out; have zz4 := Z4.out; have zz5 := Z5.out; have zz6 := Z6.out; have zz7 := Z7.out; have zz8 := Z8.out; have zz9 := Z9.out; have zz10 := Z10.out; have zz11 := Z11.out; have t2 := Tbsx1.out _ h; omega)
        replace hB := ht108.below hB hB.size (fun b h => by have zz0 := Z0.out; have zz1 := Z1.out; have zz2 := Z2.out; have zz3 := Z3.out; have zz4 := Z4.out; have zz5 := Z5.out; have zz6 := Z6.out; have zz7 := Z7.out; have zz8 := Z8.out; have zz9 := Z9.out; have zz10 := Z10.out; have zz11 := Z11.out; have t2 := Tbsx1.out b h; omega)
        have z_ := ht108.size
        try simp only [World.size_alloc] at z_
        have Z12 := Lib.hid z_
        clear z_
        obtain ⟨Gb0_0, Gb0_1, Gb0_2, Gb0_3, Gb0_4, Gb0_5, Gb0l⟩ := id (Bx.all6 Gb0)
        obtain ⟨Sb0_0, Sb0_1, Sb0_2, Sb0_3, Sb0_4, Sb0_5, Sb0l⟩ := id (Bx.all6 Sb0)
        go_wp2_with fail
        refine (eq_checker _ Hx0.out GE0 SE0).mono ?_
        rintro e w109 ⟨rfl, hb109⟩
        clear Gb0_0 Gb0_1 Gb0_2 Gb0_3 Gb0_4 Gb0_5 Gb0l Sb0_0 Sb0_1 Sb0_2 Sb0_3 Sb0_4 Sb0_5 Sb0l
        replace SE0 := (ck_ok _).later SE0 hb109
        replace GE0 := (ck_ok _).later GE0 hb109
        replace pb0 := pb0.later hb109
        replace pb1 := pb1.later hb109
        replace Sb0 := Sb0.later hb109
        replace Gb0 := Gb0.later hb109
        replace hB := hB.trans (hb109.mono hB.size)
        have z_ := hb109.size
        try simp only [World.size_alloc] at z_
        have Z13 := Lib.hid z_
        clear z_
        obtain ⟨Gb0_0, Gb0_1, Gb0_2, Gb0_3, Gb0_4, Gb0_5, Gb0l⟩ := id (Bx.all6 Gb0)
        have mx := mark_checker 1 _ Hx0.out (by omega) GE0
        rw [← Hk0.out] at mx
        have Mx := Lib.hid mx
        clear mx
        go_wp2_with fail
        refine Mx.out.mono ?_
        rintro e w110 ⟨rfl, GE0', ht110⟩
        clear Mx
        clear Gb0_0 Gb0_1 Gb0_2 Gb0_3 Gb0_4 Gb0_5 Gb0l
        clear GE0
        replace SE0 := (ck_ok _).off SE0 ht110 (fun b h1 h2 => by have zz0 := Z0.out; have zz1 := Z1.out; have zz2 := Z2.out; have zz3 := Z3.out; have zz4 := Z4.out; have zz5 := Z5.out; have zz6 := Z6.out; have zz7 := Z7.out; have zz8 := Z8.out; have zz9 := Z9.out; have zz10 := Z10.out; have zz11 := Z11.out; have zz12 := Z12.out; have zz13 := Z13.out; have t1 := TSbs0.out b h1; have t2 := TGbs0.out b h2; omega)
        replace pb0 := pb0.off ht110 (fun h => by have zz0 := Z0.out; have zz1 := Z1.out; have zz2 := Z2.out; have zz3 := Z3.out; have zz4 := Z4.out; have zz5 := Z5.out; have zz6 := Z6.out; have zz7 := Z7.out; have zz8 := Z8.out; have zz9 := Z9.out; have zz10 := Z10.out; have zz11 := Z11.out; have zz12 := Z12.out; have zz13 := Z13.out; have t2 := TGbs0.out _ h; omega)
        replace pb1 := pb1.off ht110 (fun h => by have zz0 := Z0.out; have zz1 := Z1.out; have zz2 := Z2.out; have zz3 := Z3.out; have zz4 := Z4.out; have zz5 := Z5.out; have zz6 := Z6.out; have zz7 := Z7.out; have zz8 := Z8.out; have zz9 := Z9.out; have zz10 := Z10.out; have zz11 := Z11.out; have zz12 := Z12.out; have zz13 := Z13.out; have t2 := TGbs0.out _ h; omega)
        replace Sb0 := Sb0.off ht110 (fun h => by have zz0 := Z0.out; have zz1 := Z1.out; have zz2 := Z2.out; have zz3 := Z3.out; have zz4 := Z4.out; have zz5 := Z5.out; have zz6 := Z6.out; have zz7 := Z7.out; have zz8 := Z8.out; have zz9 := Z9.out; have zz10 := Z10.out; have zz11 := Z11.out; have zz12 := Z12.out; have zz13 := Z13.out; have t2 := TGbs0.out _ h; omega)
        replace Gb0 := Gb0.off ht110 (fun h => by have zz0 := Z0.out; have zz1 := Z1.out; have zz2 := Z2.out; have zz3 := Z3.out; have zz4 := Z4.out; have zz5 := Z5.out; have zz6 := Z6.out; have zz7 := Z7.out; have zz8 := Z8.out; have zz9 := Z9.out; have zz10 := Z10.out; have zz11 := Z11.out; have zz12 := Z12.out; have zz13 := Z13.out; have t2 := TGbs0.out _ h; omega)
        replace hB := ht110.below hB hB.size (fun b h => by have zz0 := Z0.out; have zz1 := Z1.out; have zz2 := Z2.out; have zz3 := Z3.out; have zz4 := Z4.out; have zz5 := Z5.out; have zz6 := Z6.out; have zz7 := Z7.out; have zz8 := Z8.out; have zz9 := Z9.out; have zz10 := Z10.out; have zz11 := Z11.out; have zz12 := Z12.out; have zz13 := Z13.out; have t2 := TGbs0.out b h; omega)
        have z_ := ht110.size
        try simp only [World.size_alloc] at z_
        have Z14 := Lib.hid z_
        clear z_
        obtain ⟨Gb0_0, Gb0_1, Gb0_2, Gb0_3, Gb0_4, Gb0_5, Gb0l⟩ := id (Bx.all6 Gb0)
        have hd := held_checker 1 _ Hx0.out (by omega) GE0'
        rw [← Hk0.out] at hd
        have HD := Lib.hid hd
        clear hd
        clear Gb0_0 Gb0_1 Gb0_2 Gb0_3 Gb0_4 Gb0_5 Gb0l
        obtain ⟨Gb0_0, Gb0_1, Gb0_2, Gb0_3, Gb0_4, Gb0_5, Gb0l⟩ := id (Bx.all6 Gb0)
        go_wp2_with fail
        refine (HD.out).mono ?_
        rintro e w111 ⟨rfl, hb111⟩
        clear Gb0_0 Gb0_1 Gb0_2 Gb0_3 Gb0_4 Gb0_5 Gb0l
        clear HD
        replace SE0 := (ck_ok _).later SE0 hb111
        replace GE0' := (ck_ok _).later GE0' hb111
        replace pb0 := pb0.later hb111
        replace pb1 := pb1.later hb111
        replace Sb0 := Sb0.later hb111
        replace Gb0 := Gb0.later hb111
        replace hB := hB.trans (hb111.mono hB.size)
        have z_ := hb111.size
        try simp only [World.size_alloc] at z_
        have Z15 := Lib.hid z_
        clear z_
        have hR := Below.refl w111.heap.size w111
        have To0 := Lib.hid fun (W : World) (hw : Below w111.heap.size w111 W) => to_checker W Hbd0.out (ck_r.later R0.out (hB.trans (hw.mono hB.size)))
        have To1 := Lib.hid fun (W : World) (hw : Below w111.heap.size w111 W) => to_checker W Hbd1.out (ck_r.later R1.out (hB.trans (hw.mono hB.size)))
        obtain ⟨pb0_0, pb0_1, pb0_2, pb0_3, pb0_4, pb0_5, pb0l⟩ := id (Bx.all6 pb0)
        obtain ⟨pb1_0, pb1_1, pb1_2, pb1_3, pb1_4, pb1_5, pb1l⟩ := id (Bx.all6 pb1)
        go_upto_region 31 with fail
        go_cut [15, 16] (fun p s wx => CutB x0 r1 w111 p s wx)
        case first =>
          clear pb0_0 pb0_1 pb0_2 pb0_3 pb0_4 pb0_5 pb0l pb1_0 pb1_1 pb1_2 pb1_3 pb1_4 pb1_5 pb1l
          refine wp_region_free_float (by kernel_rfl) [
              .val [] (fun _ => .agg #[.int .i64 a0.stack, .int .i64 a0.start, .slice Ap0_0 np0_0 kp0_0, .slice Ap0_1 np0_1 kp0_1, .slice Ap0_2 np0_2 kp0_2, .slice Ap0_3 np0_3 kp0_3]),
              .own (CkE w111.heap.size) a0,
              .val [] (fun _ => .agg #[.int .i64 a1.stack, .int .i64 a1.start, .slice Ap1_0 np1_0 kp1_0, .slice Ap1_1 np1_1 kp1_1, .slice Ap1_2 np1_2 kp1_2, .slice Ap1_3 np1_3 kp1_3]),
              .own (CkE w111.heap.size) a1,
              .own (TupE (CkE w111.heap.size) r1) x0,
              .val [4] (fun u => u 4),
              .val [5] (fun u => fstV (u 5)),
              .val [] (fun _ => .int .i64 r1),
              .own (PtrE w111.heap.size 31 #[.int .i64 0, .int .i64 0, .slice none 0 0, .slice none 0 0, .slice none 0 0, .slice none 0 0]) ()] 9 7 ?hp ?hfw ?deps ?oks ?hfl ?steps ?end1 ?end2
          case hfl => kernel_rfl
          case hp => kernel_rfl
          case hfw => kernel_rfl
          case deps => kernel_rfl
          case oks =>
            intro F hF
            simp only [List.mem_cons, List.not_mem_nil, or_false] at hF
            rcases hF with rfl | rfl | rfl | rfl | rfl | rfl | rfl | rfl | rfl
            · trivial
            · exact ⟨_, ck_ok _⟩
            · trivial
            · exact ⟨_, ck_ok _⟩
            · exact ⟨_, tup_ok (ck_ok _) _⟩
            · trivial
            · trivial
            · trivial
            · exact ⟨_, ptr_ok _ _ _⟩
          case steps =>
            refine Steps.cons ?_ ?_
            · intro _; refine FreeStep.val [] _ rfl rfl fun u β W hW hn fr hfr K hK => ?_
              simp only [frameL, putL, Act.put, List.setIfInBounds_toArray, List.set_cons_zero, List.set_cons_succ, Nat.zero_add, Nat.reduceAdd] at hfr
              subst hfr
              obtain ⟨y0, y1, y2, y3, y4, y5, yl⟩ := id (Bx.all6 (pb0.later hW))
              have HK := Lib.hid hK
              clear hK hn
              go_simp
              have h9 := HK.out
              revert h9
              clear HK
              go_simp
              try exact id
            refine Steps.cons ?_ ?_
            · intro _; refine FreeStep.own (base := w111.heap.size) rfl (ck_ok _) fun u β W hW hn fr hfr K hK => ?_
              simp only [frameL, putL, Act.put, List.setIfInBounds_toArray, List.set_cons_zero, List.set_cons_succ, Nat.zero_add, Nat.reduceAdd] at hfr
              subst hfr
              have e0 : u 0 = .agg #[.int .i64 a0.stack, .int .i64 a0.start, .slice Ap0_0 np0_0 kp0_0, .slice Ap0_1 np0_1 kp0_1, .slice Ap0_2 np0_2 kp0_2, .slice Ap0_3 np0_3 kp0_3] := Have.get (k := 0) hn rfl
              simp only [e0] at hK
              have hsz := hW.size
              have Q := Lib.hid (To0.out W hW)
              have HK := Lib.hid hK
              clear hK hn
              go_simp
              refine Q.out.mono ?_
              rintro e w9 ⟨v9, cs9, rfl, h9, hb9⟩
              exact HK.out v9 cs9 w9 hb9 (ckp_base hsz h9) (fun b hb => ((ck_ok _).lt h9 b hb).1)
            refine Steps.cons ?_ ?_
            · intro _; refine FreeStep.val [] _ rfl rfl fun u β W hW hn fr hfr K hK => ?_
              simp only [frameL, putL, Act.put, List.setIfInBounds_toArray, List.set_cons_zero, List.set_cons_succ, Nat.zero_add, Nat.reduceAdd] at hfr
              subst hfr
              obtain ⟨y0, y1, y2, y3, y4, y5, yl⟩ := id (Bx.all6 (pb1.later hW))
              have HK := Lib.hid hK
              clear hK hn
              go_simp
              have h9 := HK.out
              revert h9
              clear HK
              go_simp
              try exact id
            refine Steps.cons ?_ ?_
            · intro _; refine FreeStep.own (base := w111.heap.size) rfl (ck_ok _) fun u β W hW hn fr hfr K hK => ?_
              simp only [frameL, putL, Act.put, List.setIfInBounds_toArray, List.set_cons_zero, List.set_cons_succ, Nat.zero_add, Nat.reduceAdd] at hfr
              subst hfr
              have e2 : u 2 = .agg #[.int .i64 a1.stack, .int .i64 a1.start, .slice Ap1_0 np1_0 kp1_0, .slice Ap1_1 np1_1 kp1_1, .slice Ap1_2 np1_2 kp1_2, .slice Ap1_3 np1_3 kp1_3] := Have.get (k := 2) hn rfl
              simp only [e2] at hK
              have hsz := hW.size
              have Q := Lib.hid (To1.out W hW)
              have HK := Lib.hid hK
              clear hK hn
              go_simp
              refine Q.out.mono ?_
              rintro e w9 ⟨v9, cs9, rfl, h9, hb9⟩
              exact HK.out v9 cs9 w9 hb9 (ckp_base hsz h9) (fun b hb => ((ck_ok _).lt h9 b hb).1)
            refine Steps.cons ?_ ?_
            · intro _; refine FreeStep.own (base := w111.heap.size) rfl (tup_ok (ck_ok _) _) fun u β W hW hn fr hfr K hK => ?_
              simp only [frameL, putL, Act.put, List.setIfInBounds_toArray, List.set_cons_zero, List.set_cons_succ, Nat.zero_add, Nat.reduceAdd] at hfr
              subst hfr
              have f1 : (CkE w111.heap.size) W (u 1) a0 (β 1) := Have.get (k := 1) hn rfl
              have f3 : (CkE w111.heap.size) W (u 3) a1 (β 3) := Have.get (k := 3) hn rfl
              have hsz := hW.size
              have Q := Lib.hid (HI.out _ _ _ _ _ _ W Hbd0.out Hbd1.out f1 f3)
              have HK := Lib.hid hK
              clear hK hn
              go_simp
              refine Q.out.mono ?_
              rintro e w9 ⟨v9, cs9, rfl, h9, hb9⟩
              exact HK.out _ cs9 w9 hb9 ⟨v9, rfl, ckp_base hsz h9⟩ (fun b hb => ((ck_ok _).lt h9 b hb).1)
            refine Steps.cons ?_ ?_
            · intro _; refine FreeStep.val [4] _ rfl rfl fun u β W hW hn fr hfr K hK => ?_
              simp only [frameL, putL, Act.put, List.setIfInBounds_toArray, List.set_cons_zero, List.set_cons_succ, Nat.zero_add, Nat.reduceAdd] at hfr
              subst hfr
              have f4 : (TupE (CkE w111.heap.size) r1) W (u 4) x0 (β 4) := Have.get (k := 4) hn rfl
              have hon4 : only [4] u 4 = u 4 := rfl
              simp only [hon4] at hK
              have HK := Lib.hid hK
              clear hK hn hon4
              go_simp
              exact HK.out
            refine Steps.cons ?_ ?_
            · intro _; refine FreeStep.val [5] _ rfl rfl fun u β W hW hn fr hfr K hK => ?_
              simp only [frameL, putL, Act.put, List.setIfInBounds_toArray, List.set_cons_zero, List.set_cons_succ, Nat.zero_add, Nat.reduceAdd] at hfr
              subst hfr
              have e5 := Have.get (k := 5) hn rfl
              have e5_ : u 5 = u 4 := e5
              clear e5
              have f4 : (TupE (CkE w111.heap.size) r1) W (u 4) x0 (β 4) := Have.get (k := 4) hn rfl
              obtain ⟨v4, g4, _⟩ := f4
              have hon5 : only [5] u 5 = u 5 := rfl
              simp only [hon5, e5_, g4, fst_tup] at hK
              have HK := Lib.hid hK
              clear hK hn hon5
              simp only [e5_, g4]
              go_simp
              exact HK.out
            refine Steps.cons ?_ ?_
            · intro _; refine FreeStep.val [] _ rfl rfl fun u β W hW hn fr hfr K hK => ?_
              simp only [frameL, putL, Act.put, List.setIfInBounds_toArray, List.set_cons_zero, List.set_cons_succ, Nat.zero_add, Nat.reduceAdd] at hfr
              subst hfr
              have e5 := Have.get (k := 5) hn rfl
              have e5_ : u 5 = u 4 := e5
              clear e5
              have f4 : (TupE (CkE w111.heap.size) r1) W (u 4) x0 (β 4) := Have.get (k := 4) hn rfl
              obtain ⟨v4, g4, _⟩ := f4
              simp only [e5_, g4] at hK
              have HK := Lib.hid hK
              clear hK hn
              simp only [e5_, g4]
              go_simp
              have h9 := HK.out
              revert h9
              clear HK
              go_simp
              try exact id
            refine Steps.cons ?_ ?_
            · intro _; refine FreeStep.own (base := w111.heap.size) rfl (ptr_ok _ _ _) fun u β W hW hn fr hfr K hK => ?_
              simp only [frameL, putL, Act.put, List.setIfInBounds_toArray, List.set_cons_zero, List.set_cons_succ, Nat.zero_add, Nat.reduceAdd] at hfr
              subst hfr
              have hsz := hW.size
              have HK := Lib.hid hK
              clear hK hn
              go_simp
              exact HK.out _ [W.heap.size] _ ((Below.refl _ _).alloc (Nat.le_refl _) _) ⟨W.heap.size, rfl, Bx.new _ _ _, rfl, hsz⟩ (fun b hb => by rw [List.mem_singleton.1 hb]; exact Nat.le_refl _)
            refine Steps.cons ?_ ?_
            · exact fun h => absurd h (by decide)
            refine Steps.cons ?_ ?_
            · exact fun h => absurd h (by decide)
            exact Steps.nil
          case end1 =>
            intro u β W hW hn hdis hbnd fr hfr
            simp only [frameL, putL, Act.put, List.setIfInBounds_toArray, List.set_cons_zero, List.set_cons_succ, Nat.zero_add, Nat.reduceAdd] at hfr
            subst hfr
            have z0 : u 0 = .agg #[.int .i64 a0.stack, .int .i64 a0.start, .slice Ap0_0 np0_0 kp0_0, .slice Ap0_1 np0_1 kp0_1, .slice Ap0_2 np0_2 kp0_2, .slice Ap0_3 np0_3 kp0_3] := Have.get (k := 0) hn rfl
            have f1 : (CkE w111.heap.size) W (u 1) a0 (β 1) := Have.get (k := 1) hn rfl
            have z2 : u 2 = .agg #[.int .i64 a1.stack, .int .i64 a1.start, .slice Ap1_0 np1_0 kp1_0, .slice Ap1_1 np1_1 kp1_1, .slice Ap1_2 np1_2 kp1_2, .slice Ap1_3 np1_3 kp1_3] := Have.get (k := 2) hn rfl
            have f3 : (CkE w111.heap.size) W (u 3) a1 (β 3) := Have.get (k := 3) hn rfl
            have f4 : (TupE (CkE w111.heap.size) r1) W (u 4) x0 (β 4) := Have.get (k := 4) hn rfl
            have z5 : u 5 = u 4 := Have.get (k := 5) hn rfl
            have z6 : u 6 = fstV (u 5) := Have.get (k := 6) hn rfl
            have z7 : u 7 = .int .i64 r1 := Have.get (k := 7) hn rfl
            have f8 : (PtrE w111.heap.size 31 #[.int .i64 0, .int .i64 0, .slice none 0 0, .slice none 0 0, .slice none 0 0, .slice none 0 0]) W (u 8) () (β 8) := Have.get (k := 8) hn rfl
            clear hn
            show wpOps _ _ _ [9, 10] _ _
            obtain ⟨v4, g4, h4⟩ := f4
            obtain ⟨bq, g8, hbq, e8, hlo⟩ := f8
            have hne : ∀ k ∈ β 4, k ≠ bq := fun k hk e => hdis 4 8 (by decide) (by decide) (by decide) (by decide) (by decide) k hk (by rw [e8, e]; simp)
            obtain ⟨AZ_0, nZ_0, kZ_0, AZ_1, nZ_1, kZ_1, AZ_2, nZ_2, kZ_2, AZ_3, nZ_3, kZ_3, rfl⟩ := h4.form
            have z6' : u 6 = .agg #[.int .i64 x0.stack, .int .i64 x0.start, .slice AZ_0 nZ_0 kZ_0, .slice AZ_1 nZ_1 kZ_1, .slice AZ_2 nZ_2 kZ_2, .slice AZ_3 nZ_3 kZ_3] := by rw [z6, z5, g4]; rfl
            simp only [g8, z6', z7]
            have HF := Lib.hid (And.intro h4 (And.intro hne (And.intro hlo (And.intro hbq hW))))
            obtain ⟨y0, y1, y2, y3, y4, y5, yl⟩ := id (Bx.all6 hbq)
            have q0 := hbq.frozen 0
            have q1 := hbq.frozen 1
            have q2 := hbq.frozen 2
            have q3 := hbq.frozen 3
            have q4 := hbq.frozen 4
            have q5 := hbq.frozen 5
            clear h4 hne hlo hbq hW
            rw [wpOps_cons]
            refine wpOp_step rfl (fun K hK => ?_)
            have HK := Lib.hid hK
            clear hK
            go_simp
            refine HK.out _ _ ?_
            clear HK
            clear y0 y1 y2 y3 y4 y5 yl q0 q1 q2 q3 q4 q5
            rw [wpOps_cons]
            refine wpOp_step rfl (fun K hK => ?_)
            have HK := Lib.hid hK
            clear hK
            go_simp
            refine HK.out _ _ ?_
            clear HK
            unfold wpOps
            go_wp2_with fail
            go_meet
            exact cutB_old HF.out.1 HF.out.2.1 HF.out.2.2.1 HF.out.2.2.2.1 HF.out.2.2.2.2
          case end2 =>
            intro u β W hW hn hdis hbnd fr hfr
            simp only [frameL, putL, Act.put, List.setIfInBounds_toArray, List.set_cons_zero, List.set_cons_succ, Nat.zero_add, Nat.reduceAdd] at hfr
            subst hfr
            have z0 : u 0 = .agg #[.int .i64 a0.stack, .int .i64 a0.start, .slice Ap0_0 np0_0 kp0_0, .slice Ap0_1 np0_1 kp0_1, .slice Ap0_2 np0_2 kp0_2, .slice Ap0_3 np0_3 kp0_3] := Have.get (k := 0) hn rfl
            have f1 : (CkE w111.heap.size) W (u 1) a0 (β 1) := Have.get (k := 1) hn rfl
            have z2 : u 2 = .agg #[.int .i64 a1.stack, .int .i64 a1.start, .slice Ap1_0 np1_0 kp1_0, .slice Ap1_1 np1_1 kp1_1, .slice Ap1_2 np1_2 kp1_2, .slice Ap1_3 np1_3 kp1_3] := Have.get (k := 2) hn rfl
            have f3 : (CkE w111.heap.size) W (u 3) a1 (β 3) := Have.get (k := 3) hn rfl
            have f4 : (TupE (CkE w111.heap.size) r1) W (u 4) x0 (β 4) := Have.get (k := 4) hn rfl
            have z5 : u 5 = u 4 := Have.get (k := 5) hn rfl
            have z6 : u 6 = fstV (u 5) := Have.get (k := 6) hn rfl
            have f8 : (PtrE w111.heap.size 31 #[.int .i64 0, .int .i64 0, .slice none 0 0, .slice none 0 0, .slice none 0 0, .slice none 0 0]) W (u 8) () (β 8) := Have.get (k := 8) hn rfl
            clear hn
            show wpOps _ _ _ [9, 7, 10] _ _
            obtain ⟨v4, g4, h4⟩ := f4
            obtain ⟨bq, g8, hbq, e8, hlo⟩ := f8
            have hne : ∀ k ∈ β 4, k ≠ bq := fun k hk e => hdis 4 8 (by decide) (by decide) (by decide) (by decide) (by decide) k hk (by rw [e8, e]; simp)
            obtain ⟨AZ_0, nZ_0, kZ_0, AZ_1, nZ_1, kZ_1, AZ_2, nZ_2, kZ_2, AZ_3, nZ_3, kZ_3, rfl⟩ := h4.form
            have z6' : u 6 = .agg #[.int .i64 x0.stack, .int .i64 x0.start, .slice AZ_0 nZ_0 kZ_0, .slice AZ_1 nZ_1 kZ_1, .slice AZ_2 nZ_2 kZ_2, .slice AZ_3 nZ_3 kZ_3] := by rw [z6, z5, g4]; rfl
            simp only [g8, z6']
            have HF := Lib.hid (And.intro h4 (And.intro hne (And.intro hlo (And.intro hbq hW))))
            have z5' := z5.trans g4
            simp only [z5']
            obtain ⟨y0, y1, y2, y3, y4, y5, yl⟩ := id (Bx.all6 hbq)
            have q0 := hbq.frozen 0
            have q1 := hbq.frozen 1
            have q2 := hbq.frozen 2
            have q3 := hbq.frozen 3
            have q4 := hbq.frozen 4
            have q5 := hbq.frozen 5
            clear h4 hne hlo hbq hW
            rw [wpOps_cons]
            refine wpOp_step rfl (fun K hK => ?_)
            have HK := Lib.hid hK
            clear hK
            go_simp
            refine HK.out _ _ ?_
            clear HK
            clear y0 y1 y2 y3 y4 y5 yl q0 q1 q2 q3 q4 q5
            rw [wpOps_cons]
            refine wpOp_step rfl (fun K hK => ?_)
            have HK := Lib.hid hK
            clear hK
            go_simp
            refine HK.out _ _ ?_
            clear HK
            rw [wpOps_cons]
            refine wpOp_step rfl (fun K hK => ?_)
            have HK := Lib.hid hK
            clear hK
            go_simp
            refine HK.out _ _ ?_
            clear HK
            unfold wpOps
            go_wp2_with fail
            go_meet
            exact cutB_old HF.out.1 HF.out.2.1 HF.out.2.2.1 HF.out.2.2.2.1 HF.out.2.2.2.2
        case rest =>
          obtain ⟨Hx, Hb, AHb0_0, nHb0_0, kHb0_0, AHb0_1, nHb0_1, kHb0_1, AHb0_2, nHb0_2, kHb0_2, AHb0_3, nHb0_3, kHb0_3, Hbs0, rfl, rfl, HE0, Hb0, hwc⟩ := hcut
          clear pb0_0 pb0_1 pb0_2 pb0_3 pb0_4 pb0_5 pb0l pb1_0 pb1_1 pb1_2 pb1_3 pb1_4 pb1_5 pb1l
          clear hR To0 To1
          replace SE0 := (ck_ok _).later SE0 hwc
          replace GE0' := (ck_ok _).later GE0' hwc
          replace pb0 := pb0.later hwc
          replace pb1 := pb1.later hwc
          replace Sb0 := Sb0.later hwc
          replace Gb0 := Gb0.later hwc
          replace hB := hB.trans (hwc.mono hB.size)
          have z_ := hwc.size
          try simp only [World.size_alloc] at z_
          have Z16 := Lib.hid z_
          clear z_
          have z_ := Nat.le_of_lt Hb0.lt
          try simp only [World.size_alloc] at z_
          have Z17 := Lib.hid z_
          clear z_
          have z_ := Hb0.lt
          try simp only [World.size_alloc] at z_
          have Z18 := Lib.hid z_
          clear z_
          obtain ⟨Hb0_0, Hb0_1, Hb0_2, Hb0_3, Hb0_4, Hb0_5, Hb0l⟩ := id (Bx.all6 Hb0)
          obtain ⟨Sb0_0, Sb0_1, Sb0_2, Sb0_3, Sb0_4, Sb0_5, Sb0l⟩ := id (Bx.all6 Sb0)
          go_wp2_with fail
          refine (eq_checker _ Hx0.out HE0 SE0).mono ?_
          rintro e w112 ⟨rfl, hb112⟩
          clear Hb0_0 Hb0_1 Hb0_2 Hb0_3 Hb0_4 Hb0_5 Hb0l Sb0_0 Sb0_1 Sb0_2 Sb0_3 Sb0_4 Sb0_5 Sb0l
          replace SE0 := (ck_ok _).later SE0 hb112
          replace GE0' := (ck_ok _).later GE0' hb112
          replace HE0 := (ck_ok _).later HE0 hb112
          replace pb0 := pb0.later hb112
          replace pb1 := pb1.later hb112
          replace Sb0 := Sb0.later hb112
          replace Gb0 := Gb0.later hb112
          replace Hb0 := Hb0.later hb112
          replace hB := hB.trans (hb112.mono hB.size)
          have z_ := hb112.size
          try simp only [World.size_alloc] at z_
          have Z19 := Lib.hid z_
          clear z_
          obtain ⟨Gb0_0, Gb0_1, Gb0_2, Gb0_3, Gb0_4, Gb0_5, Gb0l⟩ := id (Bx.all6 Gb0)
          have hd := held_checker 1 _ Hx0.out (by omega) GE0'
          rw [← Hk0.out] at hd
          have HD := Lib.hid hd
          clear hd
          clear Gb0_0 Gb0_1 Gb0_2 Gb0_3 Gb0_4 Gb0_5 Gb0l
          obtain ⟨Gb0_0, Gb0_1, Gb0_2, Gb0_3, Gb0_4, Gb0_5, Gb0l⟩ := id (Bx.all6 Gb0)
          go_wp2_with fail
          refine (HD.out).mono ?_
          rintro e w113 ⟨rfl, hb113⟩
          clear Gb0_0 Gb0_1 Gb0_2 Gb0_3 Gb0_4 Gb0_5 Gb0l
          clear HD
          replace SE0 := (ck_ok _).later SE0 hb113
          replace GE0' := (ck_ok _).later GE0' hb113
          replace HE0 := (ck_ok _).later HE0 hb113
          replace pb0 := pb0.later hb113
          replace pb1 := pb1.later hb113
          replace Sb0 := Sb0.later hb113
          replace Gb0 := Gb0.later hb113
          replace Hb0 := Hb0.later hb113
          replace hB := hB.trans (hb113.mono hB.size)
          have z_ := hb113.size
          try simp only [World.size_alloc] at z_
          have Z20 := Lib.hid z_
          clear z_
          go_wp2
          go_ret
          exact ⟨rfl, hB⟩
end Go.Proofs.Ytfaiifiohomdmaa

namespace Go.Proofs.Ytfaiifiohomdmaa.fnExactEitherCheckersDone
open Go.ChangeShapes Go.WideShapes Go.ChangeAt Go.RowKit
open Go.ChangeMaps (open_string shut_string)
set_option linter.unusedVariables false

theorem own : ownKnob Try.prog.godebug = none := by kernel_rfl
theorem laidOut : laidOutB Try.prog = true := by kernel_rfl

set_option maxRecDepth 100000 in
theorem lifted (os : Os) (started : os.Started) (H : Type) (enc : TypeId × Value → H) :
    ReturnsInHanded {} Try.checked os 4 .any (Rows.fnExactEitherCheckersSpec.pre6 enc Try.prog Try.f4 Rows.fnExactEitherCheckersRow.domain false) (Rows.fnExactEitherCheckersSpec.post enc Try.prog Try.f4 false true false false) := by
  refine returnsInHanded_of_change (C := Try.checked) own started (by kernel_rfl) Try.func4
    (ChangeSpec.witness6 (enc := enc) (C := Try.checked) false ⟨#[], #[.agg #[.int .i64 0, .int .i64 0, .slice none 0 0, .slice none 0 0, .slice none 0 0, .slice none 0 0], .agg #[.int .i64 0, .int .i64 0, .slice none 0 0, .slice none 0 0, .slice none 0 0, .slice none 0 0]], []⟩ 8 (by kernel_rfl) (by kernel_rfl) (by kernel_rfl) (by kernel_rfl)) ?_
  intro W base args ds gs before hval0 hW hcnd _
  have hval : ∀ (j : Nat) t v, Try.f4.params[j]? = some t → args[j]? = some v → Value.okWide Try.prog W .any base t v := hval0
  have hW' := hW
  obtain ⟨p, q, hA0, hV, rfl, hfz, hnd⟩ := hW
  have hA : DataW.TrodAll enc Try.prog W 0 (fun _ => true) true Try.f4.params.toList args.toList ds p := hA0
  rw [Try.params4] at hA hval
  obtain ⟨v0, vs0, d0, ds0, p0, q0, hargs, rfl, rfl, h0, r0⟩ := trodAll_cons hA
  obtain ⟨v1, vs1, d1, ds1, p1, q1, rfl, rfl, rfl, h1, r1⟩ := trodAll_cons r0
  obtain ⟨rfl, rfl, rfl⟩ := trodAll_nil r1
  obtain rfl : args = #[v0, v1] := by cases args; simp_all
  obtain ⟨rfl, rfl⟩ := trodVars_none hV
  have k0 := h0
  have lt0 : ∀ x ∈ p0, x.block < W.heap.size := by obtain ⟨m, hm⟩ := k0; exact DataW.trod_lt m _ _ _ hm
  obtain ⟨c0, w0, _⟩ := open_ck (hval 0 27 v0 rfl rfl) h0
  have k1 := h1
  have lt1 : ∀ x ∈ p1, x.block < W.heap.size := by obtain ⟨m, hm⟩ := k1; exact DataW.trod_lt m _ _ _ hm
  obtain ⟨c1, w1, _⟩ := open_ck (hval 1 27 v1 rfl rfl) h1
  clear hA0 hval0
  refine (FnExactEitherCheckers_walk _ c0 _ c1 W w0 w1).mono fun e W' ⟨he, bel⟩ => ?_
  subst he
  exact ⟨_, rfl, _, _, _, [], _, [], hW', trodAll_mk1 (shut_bool Try.underlying4 _), (trodAll_cons_mk (Below.trod laidOut (by kernel_rfl) (of_decide_eq_true (by kernel_rfl)) k0 bel lt0) (trodAll_cons_mk (Below.trod laidOut (by kernel_rfl) (of_decide_eq_true (by kernel_rfl)) k1 bel lt1) trodAll_mk0)), rfl, bel.frame _, fun h => by cases h⟩

theorem over : Rows.fnExactEitherCheckersRow.holds Try.pinned (OpenSpec.ofChange Rows.fnExactEitherCheckersSpec) :=
  OpenClaim.holds_of_wide 4 Try.f4 rfl rfl rfl rfl rfl rfl rfl ⟨rfl, rfl, rfl, rfl, rfl⟩ rfl rfl rfl rfl rfl (by kernel_rfl) Try.func4 (by kernel_rfl)
    (of_decide_eq_true (by kernel_rfl)) (by unfold Func.isWrapper; first | (rw [if_pos (by decide +kernel)]; kernel_rfl) | (rw [if_neg (by decide +kernel)]; exact ⟨rfl, rfl⟩))
    (fun os started H enc _ => lifted os started H enc)

theorem proved : Rows.FnExactEitherCheckersSaid := over
#print axioms proved
end Go.Proofs.Ytfaiifiohomdmaa.fnExactEitherCheckersDone
