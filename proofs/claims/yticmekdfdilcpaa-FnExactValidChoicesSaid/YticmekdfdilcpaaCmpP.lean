/- comparePushes of the program. -/
import Derived.Test.YticmekdfdilcpaaRisP
import Derived.Test.YticmekdfdilcpaaFree
import Derived.Test.YticmekdfdilcpaaGrown
import Derived.StillTailTactics
namespace Go.Proofs.Yticmekdfdilcpaa
open Go.RowKit
set_option linter.unusedVariables false
set_option maxHeartbeats 6400000 in
set_option maxRecDepth 100000 in
theorem impl_cmpP (a1 a2 b1 b2 : Int) (w : World) : Calls Try.prog 94 #[.agg #[.int .i64 a1, .int .i64 a2], .agg #[.int .i64 b1, .int .i64 b2]] w (SeenPost (.int .i64 (cmpP (a1, a2) (b1, b2))) w) := by
  have hB := ((Below.refl w.heap.size w).alloc (Nat.le_refl _) (.cells #[.int .i64 a1, .int .i64 a2] 97)).alloc (by simp) (.cells #[.int .i64 b1, .int .i64 b2] 97)
  have t1 := (Bx.new w 97 #[.int .i64 a1, .int .i64 a2]).alloc (.cells #[.int .i64 b1, .int .i64 b2] 97)
  have t2 := Bx.new (w.alloc (.cells #[.int .i64 a1, .int .i64 a2] 97)) 97 #[.int .i64 b1, .int .i64 b2]
  simp only [World.size_alloc] at t2
  obtain ⟨W0, hW0⟩ : ∃ W0, W0 = (w.alloc (.cells #[.int .i64 a1, .int .i64 a2] 97)).alloc (.cells #[.int .i64 b1, .int .i64 b2] 97) := ⟨_, rfl⟩
  rw [← hW0] at hB t1 t2
  obtain ⟨c1, hc1⟩ : ∃ c, c = cmpI a1 b1 := ⟨_, rfl⟩
  obtain ⟨c2, hc2⟩ : ∃ c, c = cmpI a2 b2 := ⟨_, rfl⟩
  obtain ⟨res, hres⟩ : ∃ c, c = cmpP (a1, a2) (b1, b2) := ⟨_, rfl⟩
  have hr : (if c1 != 0 then c1 else c2) = res := by rw [hres, hc1, hc2]; rfl
  rw [← hres]
  have QA := Lib.hid (fun W => impl_compare a1 b1 W)
  have QB := Lib.hid (fun W => impl_compare a2 b2 W)
  have QO := Lib.hid (fun g W hB => impl_or c1 c2 g W hB)
  rw [← hc1] at QA
  rw [← hc2] at QB
  rw [hr] at QO
  have HB := Lib.hid hB
  have H0 := Lib.hid hW0
  clear hc1 hc2 hres hr hB hW0
  have T1 := Lib.hid t1
  have T2 := Lib.hid t2
  clear t1 t2
  go_enter Try.func94, Try.ntmps94
  go_upto_region 1 with fail
  rw [← H0.out]
  refine wp_region_free_seq (by kernel_rfl) [
      .val [] (fun _ => .pointer (some ⟨w.heap.size, 0, none⟩)),
      .val [] (fun _ => .int .i64 a1),
      .val [] (fun _ => .pointer (some ⟨w.heap.size + 1, 0, none⟩)),
      .val [] (fun _ => .int .i64 b1),
      .val [] (fun _ => .int .i64 c1),
      .val [] (fun _ => .pointer (some ⟨w.heap.size, 1, none⟩)),
      .val [] (fun _ => .int .i64 a2),
      .val [] (fun _ => .pointer (some ⟨w.heap.size + 1, 1, none⟩)),
      .val [] (fun _ => .int .i64 b2),
      .val [] (fun _ => .int .i64 c2),
      .own (LitE W0.heap.size 3 #[.int .i64 c1, .int .i64 c2] 2) (),
      .val [] (fun _ => .int .i64 res)] 12 ?hp ?hfw ?deps ?oks ?hforced ?hf ?steps ?tailR
  case hforced => kernel_rfl
  case hf => kernel_rfl
  case hp => kernel_rfl
  case hfw => kernel_rfl
  case deps => kernel_rfl
  case oks =>
    intro F hF
    simp only [List.mem_cons, List.not_mem_nil, or_false] at hF
    rcases hF with rfl | rfl | rfl | rfl | rfl | rfl | rfl | rfl | rfl | rfl | rfl | rfl
    · trivial
    · trivial
    · trivial
    · trivial
    · trivial
    · trivial
    · trivial
    · trivial
    · trivial
    · trivial
    · exact ⟨_, lit_ok _ _ _ _⟩
    · trivial
  case steps =>
    refine Steps.cons ?_ ?_
    · intro _; refine FreeStep.val [] _ rfl rfl fun u β W hW hn fr hfr K hK => ?_
      simp only [frameL, putL, Act.put, List.setIfInBounds_toArray, List.set_cons_zero, List.set_cons_succ, Nat.zero_add, Nat.reduceAdd] at hfr
      subst hfr
      have HK := Lib.hid hK
      clear hK hn
      go_simp
      have h9 := HK.out
      revert h9
      clear HK
      go_simp
      try exact id
    refine Steps.cons ?_ ?_
    · intro _; refine FreeStep.val [] _ rfl rfl fun u β W hW hn fr hfr K hK => ?_
      simp only [frameL, putL, Act.put, List.setIfInBounds_toArray, List.set_cons_zero, List.set_cons_succ, Nat.zero_add, Nat.reduceAdd] at hfr
      subst hfr
      have e0 : u 0 = .pointer (some ⟨w.heap.size, 0, none⟩) := Have.get (k := 0) hn rfl
      simp only [e0] at hK
      obtain ⟨y0, y1, yl⟩ := id (Bx.all2 (T1.out.later hW))
      have HK := Lib.hid hK
      clear hK hn
      go_simp
      have h9 := HK.out
      revert h9
      clear HK
      go_simp
      try exact id
    refine Steps.cons ?_ ?_
    · intro _; refine FreeStep.val [] _ rfl rfl fun u β W hW hn fr hfr K hK => ?_
      simp only [frameL, putL, Act.put, List.setIfInBounds_toArray, List.set_cons_zero, List.set_cons_succ, Nat.zero_add, Nat.reduceAdd] at hfr
      subst hfr
      have HK := Lib.hid hK
      clear hK hn
      go_simp
      have h9 := HK.out
      revert h9
      clear HK
      go_simp
      try exact id
    refine Steps.cons ?_ ?_
    · intro _; refine FreeStep.val [] _ rfl rfl fun u β W hW hn fr hfr K hK => ?_
      simp only [frameL, putL, Act.put, List.setIfInBounds_toArray, List.set_cons_zero, List.set_cons_succ, Nat.zero_add, Nat.reduceAdd] at hfr
      subst hfr
      have e2 : u 2 = .pointer (some ⟨w.heap.size + 1, 0, none⟩) := Have.get (k := 2) hn rfl
      simp only [e2] at hK
      obtain ⟨y0, y1, yl⟩ := id (Bx.all2 (T2.out.later hW))
      have HK := Lib.hid hK
      clear hK hn
      go_simp
      have h9 := HK.out
      revert h9
      clear HK
      go_simp
      try exact id
    refine Steps.cons ?_ ?_
    · intro _; refine FreeStep.calm [] _ rfl rfl fun u β W hW hn fr hfr K hK => ?_
      simp only [frameL, putL, Act.put, List.setIfInBounds_toArray, List.set_cons_zero, List.set_cons_succ, Nat.zero_add, Nat.reduceAdd] at hfr
      subst hfr
      have e1 : u 1 = .int .i64 a1 := Have.get (k := 1) hn rfl
      have e3 : u 3 = .int .i64 b1 := Have.get (k := 3) hn rfl
      simp only [e1, e3] at hK
      have Q := Lib.hid (QA.out W)
      have HK := Lib.hid hK
      clear hK hn
      go_simp
      refine Q.out.mono ?_
      rintro e w9 ⟨rfl, rfl⟩
      exact HK.out _ (Below.refl _ _)
    refine Steps.cons ?_ ?_
    · intro _; refine FreeStep.val [] _ rfl rfl fun u β W hW hn fr hfr K hK => ?_
      simp only [frameL, putL, Act.put, List.setIfInBounds_toArray, List.set_cons_zero, List.set_cons_succ, Nat.zero_add, Nat.reduceAdd] at hfr
      subst hfr
      have HK := Lib.hid hK
      clear hK hn
      go_simp
      have h9 := HK.out
      revert h9
      clear HK
      go_simp
      try exact id
    refine Steps.cons ?_ ?_
    · intro _; refine FreeStep.val [] _ rfl rfl fun u β W hW hn fr hfr K hK => ?_
      simp only [frameL, putL, Act.put, List.setIfInBounds_toArray, List.set_cons_zero, List.set_cons_succ, Nat.zero_add, Nat.reduceAdd] at hfr
      subst hfr
      have e5 : u 5 = .pointer (some ⟨w.heap.size, 1, none⟩) := Have.get (k := 5) hn rfl
      simp only [e5] at hK
      obtain ⟨y0, y1, yl⟩ := id (Bx.all2 (T1.out.later hW))
      have HK := Lib.hid hK
      clear hK hn
      go_simp
      have h9 := HK.out
      revert h9
      clear HK
      go_simp
      try exact id
    refine Steps.cons ?_ ?_
    · intro _; refine FreeStep.val [] _ rfl rfl fun u β W hW hn fr hfr K hK => ?_
      simp only [frameL, putL, Act.put, List.setIfInBounds_toArray, List.set_cons_zero, List.set_cons_succ, Nat.zero_add, Nat.reduceAdd] at hfr
      subst hfr
      have HK := Lib.hid hK
      clear hK hn
      go_simp
      have h9 := HK.out
      revert h9
      clear HK
      go_simp
      try exact id
    refine Steps.cons ?_ ?_
    · intro _; refine FreeStep.val [] _ rfl rfl fun u β W hW hn fr hfr K hK => ?_
      simp only [frameL, putL, Act.put, List.setIfInBounds_toArray, List.set_cons_zero, List.set_cons_succ, Nat.zero_add, Nat.reduceAdd] at hfr
      subst hfr
      have e7 : u 7 = .pointer (some ⟨w.heap.size + 1, 1, none⟩) := Have.get (k := 7) hn rfl
      simp only [e7] at hK
      obtain ⟨y0, y1, yl⟩ := id (Bx.all2 (T2.out.later hW))
      have HK := Lib.hid hK
      clear hK hn
      go_simp
      have h9 := HK.out
      revert h9
      clear HK
      go_simp
      try exact id
    refine Steps.cons ?_ ?_
    · intro _; refine FreeStep.calm [] _ rfl rfl fun u β W hW hn fr hfr K hK => ?_
      simp only [frameL, putL, Act.put, List.setIfInBounds_toArray, List.set_cons_zero, List.set_cons_succ, Nat.zero_add, Nat.reduceAdd] at hfr
      subst hfr
      have e6 : u 6 = .int .i64 a2 := Have.get (k := 6) hn rfl
      have e8 : u 8 = .int .i64 b2 := Have.get (k := 8) hn rfl
      simp only [e6, e8] at hK
      have Q := Lib.hid (QB.out W)
      have HK := Lib.hid hK
      clear hK hn
      go_simp
      refine Q.out.mono ?_
      rintro e w9 ⟨rfl, rfl⟩
      exact HK.out _ (Below.refl _ _)
    refine Steps.cons ?_ ?_
    · intro _; refine FreeStep.own (base := W0.heap.size) rfl (lit_ok _ _ _ _) fun u β W hW hn fr hfr K hK => ?_
      simp only [frameL, putL, Act.put, List.setIfInBounds_toArray, List.set_cons_zero, List.set_cons_succ, Nat.zero_add, Nat.reduceAdd] at hfr
      subst hfr
      have e4 : u 4 = .int .i64 c1 := Have.get (k := 4) hn rfl
      have e9 : u 9 = .int .i64 c2 := Have.get (k := 9) hn rfl
      simp only [e4, e9] at hK
      have hsz := hW.size
      have HK := Lib.hid hK
      clear hK hn
      go_simp
      exact HK.out _ [W.heap.size] _ ((Below.refl _ _).alloc (Nat.le_refl _) _) (LitE.new _ _ _ W hsz) (fun b hb => by rw [List.mem_singleton.1 hb]; exact Nat.le_refl _)
    refine Steps.cons ?_ ?_
    · intro _; refine FreeStep.calm [] _ rfl rfl fun u β W hW hn fr hfr K hK => ?_
      simp only [frameL, putL, Act.put, List.setIfInBounds_toArray, List.set_cons_zero, List.set_cons_succ, Nat.zero_add, Nat.reduceAdd] at hfr
      subst hfr
      have f10 : (LitE W0.heap.size 3 #[.int .i64 c1, .int .i64 c2] 2) W (u 10) () (β 10) := Have.get (k := 10) hn rfl
      obtain ⟨bL, gL, xL, _, _⟩ := f10
      simp only [gL] at hK
      have Q := Lib.hid (QO.out bL W xL)
      have HK := Lib.hid hK
      clear hK hn
      simp only [gL]
      go_simp
      refine Q.out.mono ?_
      rintro e w9 ⟨rfl, rfl⟩
      exact HK.out _ (Below.refl _ _)
    refine Steps.cons ?_ ?_
    · exact fun h => absurd h (by decide)
    exact Steps.nil
  case tailR =>
    intro u β W hW hn hdis hbnd fr hfr
    simp only [frameL, putL, Act.put, List.setIfInBounds_toArray, List.set_cons_zero, List.set_cons_succ, Nat.zero_add, Nat.reduceAdd] at hfr
    subst hfr
    have z0 : u 0 = .pointer (some ⟨w.heap.size, 0, none⟩) := Have.get (k := 0) hn rfl
    have z1 : u 1 = .int .i64 a1 := Have.get (k := 1) hn rfl
    have z2 : u 2 = .pointer (some ⟨w.heap.size + 1, 0, none⟩) := Have.get (k := 2) hn rfl
    have z3 : u 3 = .int .i64 b1 := Have.get (k := 3) hn rfl
    have z4 : u 4 = .int .i64 c1 := Have.get (k := 4) hn rfl
    have z5 : u 5 = .pointer (some ⟨w.heap.size, 1, none⟩) := Have.get (k := 5) hn rfl
    have z6 : u 6 = .int .i64 a2 := Have.get (k := 6) hn rfl
    have z7 : u 7 = .pointer (some ⟨w.heap.size + 1, 1, none⟩) := Have.get (k := 7) hn rfl
    have z8 : u 8 = .int .i64 b2 := Have.get (k := 8) hn rfl
    have z9 : u 9 = .int .i64 c2 := Have.get (k := 9) hn rfl
    have f10 : (LitE W0.heap.size 3 #[.int .i64 c1, .int .i64 c2] 2) W (u 10) () (β 10) := Have.get (k := 10) hn rfl
    have z11 : u 11 = .int .i64 res := Have.get (k := 11) hn rfl
    clear hn hdis hbnd
    show wpOps _ _ _ [12] _ _
    have hBW := HB.out.trans (hW.mono HB.out.size)
    simp only [z11]
    rw [wpOps_cons]
    refine wpOp_step rfl (fun K hK => ?_)
    go_simp
    refine hK _ _ ?_
    clear hK
    unfold wpOps
    go_wp2
    go_ret
    exact ⟨rfl, hBW⟩
theorem entersP {P : Program} {f : FuncId} {fn : Func} {c : Code} (hf : P.funcs[f]? = some fn) (hname : (fn.name == "runtime.NumGoroutine") = false) (hb : fn.body = some c) (args : Array Value) (w : World) :
    (callFunc f args).run P w = .ok (.enter f args) w := by
  have h1 : fn.name ≠ "runtime.NumGoroutine" := by simpa using hname
  simp [callFunc, hf, h1, hb]
theorem upP_zero (xs : List (Int × Int)) : upP xs 0 = true := rfl
theorem upP_one (xs : List (Int × Int)) : upP xs 1 = true := by rw [upP_succ]; rfl
set_option maxHeartbeats 6400000 in
set_option maxRecDepth 100000 in
theorem impl_incrP {base : Nat} {v : Value} {xs : List (Int × Int)} {bs : List Nat} (w : World) (hn : Bd1 xs) (ha : PushE base w v xs bs) :
    Calls Try.prog 93 #[v, .func (.func 94) #[] #[]] w (SeenPost (.bool (upP xs xs.length)) w) := by
  obtain ⟨A, ca, rfl⟩ := RowE.slice ha
  unfold Bd1 at hn
  obtain ⟨n, hn'⟩ : ∃ n, n = xs.length := ⟨_, rfl⟩
  have Hn := Lib.hid hn'
  rw [← hn'] at ha hn ⊢
  clear hn'
  have HA := Lib.hid ha
  have Hcf := Lib.hid (show ∀ args w, (callFunc 94 args).run Try.prog w = .ok (.enter 94 args) w from fun args w => entersP (fn := Try.f94) (by kernel_rfl) (by kernel_rfl) rfl args w)
  clear ha
  go_enter Try.func93, Try.ntmps93
  go_wp2_with fail
  go_loopw [5] (fun i wr => ∃ k : Nat, (k + 1 ≤ n ∨ k = 0) ∧ i = .int .i64 ((k + 1 : Nat) : Int) ∧ Below w.heap.size w wr ∧ Hid (upP xs (k + 1) = true)) (fun i _ => n + 1 - (intOf i).toNat)
  case atStart => exact ⟨0, .inr rfl, rfl, Below.refl _ _, upP_one xs⟩
  case round =>
    obtain ⟨k, hk, rfl, hB, hU⟩ := hrel
    have HB := Lib.hid hB
    clear hB
    by_cases hlt : k + 1 < n
    · have hkx : k + 1 < xs.length := by rw [← Hn.out]; exact hlt
      obtain ⟨x, hx⟩ : ∃ x, xs[k]? = some x := ⟨_, List.getElem?_eq_getElem (by omega)⟩
      obtain ⟨y, hy⟩ : ∃ y, xs[k + 1]? = some y := ⟨_, List.getElem?_eq_getElem hkx⟩
      obtain ⟨x1, x2⟩ := x
      obtain ⟨y1, y2⟩ := y
      obtain ⟨g, rfl, hg, _⟩ := RowE.head HA.out hkx
      have HX := Lib.hid (fun (W : World) (hW : Below w.heap.size w W) => And.intro (PushE.cell' ((push_ok _).later HA.out hW) hx) (PushE.cell' ((push_ok _).later HA.out hW) hy))
      have ewk : IntKind.i64.wrap (k : Int) = (k : Int) := by rw [IntWalk.i64_in _ (by omega)]
      have hkn : k < n := by omega
      have hge := cmpP_lt (x1, x2) (y1, y2)
      have QC := Lib.hid (fun W => impl_cmpP x1 x2 y1 y2 W)
      obtain ⟨z, hz⟩ : ∃ z, z = cmpP (x1, x2) (y1, y2) := ⟨_, rfl⟩
      rw [← hz] at hge QC
      have hup := upP2_at hx hy
      have hsuc := upP_succ xs (k + 1)
      rw [hU.out, hup] at hsuc
      have HS := Lib.hid hsuc
      have HNO := Lib.hid (fun h : ltP (x1, x2) (y1, y2) = false => upP_no hkx (hup.trans h))
      clear hz hx hy hkx hup hsuc hU
      by_cases hxy : ltP (x1, x2) (y1, y2) = true
      · rw [hxy] at hge
        have hd : decide (0 ≤ z) = false := hge
        have hd' := of_decide_eq_false hd
        go_wp2_with fail
        go_upto_region 4 with fail
        refine wp_region_free (by kernel_rfl) [
            .val [] (fun _ => .func (.func 94) #[] #[]),
            .val [] (fun _ => .slice (some ⟨g, 0, none⟩) n ca),
            .val [] (fun _ => .int .i64 ((k : Int) + 1)),
            .val [] (fun _ => .int .i64 (k : Int)),
            .val [] (fun _ => .pointer (some ⟨g, k * 2, none⟩)),
            .val [] (fun _ => .agg #[.int .i64 x1, .int .i64 x2]),
            .val [] (fun _ => .slice (some ⟨g, 0, none⟩) n ca),
            .val [] (fun _ => .int .i64 ((k : Int) + 1)),
            .val [] (fun _ => .pointer (some ⟨g, (k + 1) * 2, none⟩)),
            .val [] (fun _ => .agg #[.int .i64 y1, .int .i64 y2]),
            .val [] (fun _ => .int .i64 z),
            .val [] (fun _ => .bool false)] ?hp ?hfw ?deps ?oks ?steps ?tailR
        case hp => kernel_rfl
        case hfw => kernel_rfl
        case deps => kernel_rfl
        case oks =>
          intro F hF
          simp only [List.mem_cons, List.not_mem_nil, or_false] at hF
          rcases hF with rfl | rfl | rfl | rfl | rfl | rfl | rfl | rfl | rfl | rfl | rfl | rfl
          · trivial
          · trivial
          · trivial
          · trivial
          · trivial
          · trivial
          · trivial
          · trivial
          · trivial
          · trivial
          · trivial
          · trivial
        case steps =>
          refine Steps.cons ?_ ?_
          · refine FreeStep.val [] _ rfl rfl fun u β W hW hn fr hfr K hK => ?_
            simp only [frameL, putL, Act.put, List.setIfInBounds_toArray, List.set_cons_zero, List.set_cons_succ, Nat.zero_add, Nat.reduceAdd] at hfr
            subst hfr
            have HK := Lib.hid hK
            clear hK hn
            go_simp
            have h9 := HK.out
            revert h9
            clear HK
            go_simp
            try exact id
          refine Steps.cons ?_ ?_
          · refine FreeStep.val [] _ rfl rfl fun u β W hW hn fr hfr K hK => ?_
            simp only [frameL, putL, Act.put, List.setIfInBounds_toArray, List.set_cons_zero, List.set_cons_succ, Nat.zero_add, Nat.reduceAdd] at hfr
            subst hfr
            have HK := Lib.hid hK
            clear hK hn
            go_simp
            have h9 := HK.out
            revert h9
            clear HK
            go_simp
            try exact id
          refine Steps.cons ?_ ?_
          · refine FreeStep.val [] _ rfl rfl fun u β W hW hn fr hfr K hK => ?_
            simp only [frameL, putL, Act.put, List.setIfInBounds_toArray, List.set_cons_zero, List.set_cons_succ, Nat.zero_add, Nat.reduceAdd] at hfr
            subst hfr
            have HK := Lib.hid hK
            clear hK hn
            go_simp
            have h9 := HK.out
            revert h9
            clear HK
            go_simp
            try exact id
          refine Steps.cons ?_ ?_
          · refine FreeStep.val [] _ rfl rfl fun u β W hW hn fr hfr K hK => ?_
            simp only [frameL, putL, Act.put, List.setIfInBounds_toArray, List.set_cons_zero, List.set_cons_succ, Nat.zero_add, Nat.reduceAdd] at hfr
            subst hfr
            have e2 : u 2 = .int .i64 ((k : Int) + 1) := Have.get (k := 2) hn rfl
            simp only [e2] at hK
            have HK := Lib.hid hK
            clear hK hn
            go_simp
            have h9 := HK.out
            revert h9
            clear HK
            go_simp
            try exact id
          refine Steps.cons ?_ ?_
          · refine FreeStep.val [] _ rfl rfl fun u β W hW hn fr hfr K hK => ?_
            simp only [frameL, putL, Act.put, List.setIfInBounds_toArray, List.set_cons_zero, List.set_cons_succ, Nat.zero_add, Nat.reduceAdd] at hfr
            subst hfr
            have e1 : u 1 = .slice (some ⟨g, 0, none⟩) n ca := Have.get (k := 1) hn rfl
            have e3 : u 3 = .int .i64 (k : Int) := Have.get (k := 3) hn rfl
            simp only [e1, e3] at hK
            have HK := Lib.hid hK
            clear hK hn
            go_simp
            have h9 := HK.out
            revert h9
            clear HK
            go_simp
            try exact id
          refine Steps.cons ?_ ?_
          · refine FreeStep.val [] _ rfl rfl fun u β W hW hn fr hfr K hK => ?_
            simp only [frameL, putL, Act.put, List.setIfInBounds_toArray, List.set_cons_zero, List.set_cons_succ, Nat.zero_add, Nat.reduceAdd] at hfr
            subst hfr
            have e4 : u 4 = .pointer (some ⟨g, k * 2, none⟩) := Have.get (k := 4) hn rfl
            simp only [e4] at hK
            obtain ⟨⟨c0, c1⟩, c2, c3⟩ := HX.out W (HB.out.trans (hW.mono HB.out.size))
            have HK := Lib.hid hK
            clear hK hn
            go_simp
            have h9 := HK.out
            revert h9
            clear HK
            go_simp
            try exact id
          refine Steps.cons ?_ ?_
          · refine FreeStep.val [] _ rfl rfl fun u β W hW hn fr hfr K hK => ?_
            simp only [frameL, putL, Act.put, List.setIfInBounds_toArray, List.set_cons_zero, List.set_cons_succ, Nat.zero_add, Nat.reduceAdd] at hfr
            subst hfr
            have HK := Lib.hid hK
            clear hK hn
            go_simp
            have h9 := HK.out
            revert h9
            clear HK
            go_simp
            try exact id
          refine Steps.cons ?_ ?_
          · refine FreeStep.val [] _ rfl rfl fun u β W hW hn fr hfr K hK => ?_
            simp only [frameL, putL, Act.put, List.setIfInBounds_toArray, List.set_cons_zero, List.set_cons_succ, Nat.zero_add, Nat.reduceAdd] at hfr
            subst hfr
            have HK := Lib.hid hK
            clear hK hn
            go_simp
            have h9 := HK.out
            revert h9
            clear HK
            go_simp
            try exact id
          refine Steps.cons ?_ ?_
          · refine FreeStep.val [] _ rfl rfl fun u β W hW hn fr hfr K hK => ?_
            simp only [frameL, putL, Act.put, List.setIfInBounds_toArray, List.set_cons_zero, List.set_cons_succ, Nat.zero_add, Nat.reduceAdd] at hfr
            subst hfr
            have e6 : u 6 = .slice (some ⟨g, 0, none⟩) n ca := Have.get (k := 6) hn rfl
            have e7 : u 7 = .int .i64 ((k : Int) + 1) := Have.get (k := 7) hn rfl
            simp only [e6, e7] at hK
            have HK := Lib.hid hK
            clear hK hn
            go_simp
            have h9 := HK.out
            revert h9
            clear HK
            go_simp
            try exact id
          refine Steps.cons ?_ ?_
          · refine FreeStep.val [] _ rfl rfl fun u β W hW hn fr hfr K hK => ?_
            simp only [frameL, putL, Act.put, List.setIfInBounds_toArray, List.set_cons_zero, List.set_cons_succ, Nat.zero_add, Nat.reduceAdd] at hfr
            subst hfr
            have e8 : u 8 = .pointer (some ⟨g, (k + 1) * 2, none⟩) := Have.get (k := 8) hn rfl
            simp only [e8] at hK
            obtain ⟨⟨c0, c1⟩, c2, c3⟩ := HX.out W (HB.out.trans (hW.mono HB.out.size))
            have HK := Lib.hid hK
            clear hK hn
            go_simp
            have h9 := HK.out
            revert h9
            clear HK
            go_simp
            try exact id
          refine Steps.cons ?_ ?_
          · refine FreeStep.calm [] _ rfl rfl fun u β W hW hn fr hfr K hK => ?_
            simp only [frameL, putL, Act.put, List.setIfInBounds_toArray, List.set_cons_zero, List.set_cons_succ, Nat.zero_add, Nat.reduceAdd] at hfr
            subst hfr
            have e0 : u 0 = .func (.func 94) #[] #[] := Have.get (k := 0) hn rfl
            have e5 : u 5 = .agg #[.int .i64 x1, .int .i64 x2] := Have.get (k := 5) hn rfl
            have e9 : u 9 = .agg #[.int .i64 y1, .int .i64 y2] := Have.get (k := 9) hn rfl
            simp only [e0, e5, e9] at hK
            have Q := Lib.hid (QC.out W)
            have hcf := Hcf.out
            have HK := Lib.hid hK
            clear hK hn
            go_simp
            clear hcf
            refine Q.out.mono ?_
            rintro e w9 ⟨rfl, hb9⟩
            exact HK.out w9 hb9
          refine Steps.cons ?_ ?_
          · refine FreeStep.val [] _ rfl rfl fun u β W hW hn fr hfr K hK => ?_
            simp only [frameL, putL, Act.put, List.setIfInBounds_toArray, List.set_cons_zero, List.set_cons_succ, Nat.zero_add, Nat.reduceAdd] at hfr
            subst hfr
            have e10 : u 10 = .int .i64 z := Have.get (k := 10) hn rfl
            simp only [e10] at hK
            have HK := Lib.hid hK
            clear hK hn
            go_simp
            have h9 := HK.out
            revert h9
            clear HK
            go_simp
            try exact id
          exact Steps.nil
        case tailR =>
          intro u_ β_ W hW hn hdis hbnd
          have z0 : u_ 0 = .func (.func 94) #[] #[] := Have.get (k := 0) hn rfl
          have z1 : u_ 1 = .slice (some ⟨g, 0, none⟩) n ca := Have.get (k := 1) hn rfl
          have z2 : u_ 2 = .int .i64 ((k : Int) + 1) := Have.get (k := 2) hn rfl
          have z3 : u_ 3 = .int .i64 (k : Int) := Have.get (k := 3) hn rfl
          have z4 : u_ 4 = .pointer (some ⟨g, k * 2, none⟩) := Have.get (k := 4) hn rfl
          have z5 : u_ 5 = .agg #[.int .i64 x1, .int .i64 x2] := Have.get (k := 5) hn rfl
          have z6 : u_ 6 = .slice (some ⟨g, 0, none⟩) n ca := Have.get (k := 6) hn rfl
          have z7 : u_ 7 = .int .i64 ((k : Int) + 1) := Have.get (k := 7) hn rfl
          have z8 : u_ 8 = .pointer (some ⟨g, (k + 1) * 2, none⟩) := Have.get (k := 8) hn rfl
          have z9 : u_ 9 = .agg #[.int .i64 y1, .int .i64 y2] := Have.get (k := 9) hn rfl
          have z10 : u_ 10 = .int .i64 z := Have.get (k := 10) hn rfl
          have z11 : u_ 11 = .bool false := Have.get (k := 11) hn rfl
          rw [← frameL_eq (by kernel_rfl)]
          clear hn hdis hbnd
          simp only [frameL, putL, Act.put, List.setIfInBounds_toArray, List.set_cons_zero, List.set_cons_succ, Nat.zero_add, Nat.reduceAdd, z0, z1, z2, z3, z4, z5, z6, z7, z8, z9, z10, z11]
          clear z0 z1 z2 z3 z4 z5 z6 z7 z8 z9 z10 z11
          have hBW := HB.out.trans (hW.mono HB.out.size)
          have hnx : Hid (upP xs (k + 1 + 1) = true) := by show _ = _; rw [HS.out, hxy]; rfl
          clear HB
          go_wp2
          go_roundw
          case rel => exact ⟨k + 1, by omega, by go_num, hBW, hnx⟩
          case measure => simp [intOf]; omega

      · have hxy := Bool.eq_false_iff.2 hxy
        rw [hxy] at hge
        have hd : decide (0 ≤ z) = true := hge
        have hd' := of_decide_eq_true hd
        go_wp2_with fail
        go_upto_region 4 with fail
        refine wp_region_free (by kernel_rfl) [
            .val [] (fun _ => .func (.func 94) #[] #[]),
            .val [] (fun _ => .slice (some ⟨g, 0, none⟩) n ca),
            .val [] (fun _ => .int .i64 ((k : Int) + 1)),
            .val [] (fun _ => .int .i64 (k : Int)),
            .val [] (fun _ => .pointer (some ⟨g, k * 2, none⟩)),
            .val [] (fun _ => .agg #[.int .i64 x1, .int .i64 x2]),
            .val [] (fun _ => .slice (some ⟨g, 0, none⟩) n ca),
            .val [] (fun _ => .int .i64 ((k : Int) + 1)),
            .val [] (fun _ => .pointer (some ⟨g, (k + 1) * 2, none⟩)),
            .val [] (fun _ => .agg #[.int .i64 y1, .int .i64 y2]),
            .val [] (fun _ => .int .i64 z),
            .val [] (fun _ => .bool true)] ?hp ?hfw ?deps ?oks ?steps ?tailR
        case hp => kernel_rfl
        case hfw => kernel_rfl
        case deps => kernel_rfl
        case oks =>
          intro F hF
          simp only [List.mem_cons, List.not_mem_nil, or_false] at hF
          rcases hF with rfl | rfl | rfl | rfl | rfl | rfl | rfl | rfl | rfl | rfl | rfl | rfl
          · trivial
          · trivial
          · trivial
          · trivial
          · trivial
          · trivial
          · trivial
          · trivial
          · trivial
          · trivial
          · trivial
          · trivial
        case steps =>
          refine Steps.cons ?_ ?_
          · refine FreeStep.val [] _ rfl rfl fun u β W hW hn fr hfr K hK => ?_
            simp only [frameL, putL, Act.put, List.setIfInBounds_toArray, List.set_cons_zero, List.set_cons_succ, Nat.zero_add, Nat.reduceAdd] at hfr
            subst hfr
            have HK := Lib.hid hK
            clear hK hn
            go_simp
            have h9 := HK.out
            revert h9
            clear HK
            go_simp
            try exact id
          refine Steps.cons ?_ ?_
          · refine FreeStep.val [] _ rfl rfl fun u β W hW hn fr hfr K hK => ?_
            simp only [frameL, putL, Act.put, List.setIfInBounds_toArray, List.set_cons_zero, List.set_cons_succ, Nat.zero_add, Nat.reduceAdd] at hfr
            subst hfr
            have HK := Lib.hid hK
            clear hK hn
            go_simp
            have h9 := HK.out
            revert h9
            clear HK
            go_simp
            try exact id
          refine Steps.cons ?_ ?_
          · refine FreeStep.val [] _ rfl rfl fun u β W hW hn fr hfr K hK => ?_
            simp only [frameL, putL, Act.put, List.setIfInBounds_toArray, List.set_cons_zero, List.set_cons_succ, Nat.zero_add, Nat.reduceAdd] at hfr
            subst hfr
            have HK := Lib.hid hK
            clear hK hn
            go_simp
            have h9 := HK.out
            revert h9
            clear HK
            go_simp
            try exact id
          refine Steps.cons ?_ ?_
          · refine FreeStep.val [] _ rfl rfl fun u β W hW hn fr hfr K hK => ?_
            simp only [frameL, putL, Act.put, List.setIfInBounds_toArray, List.set_cons_zero, List.set_cons_succ, Nat.zero_add, Nat.reduceAdd] at hfr
            subst hfr
            have e2 : u 2 = .int .i64 ((k : Int) + 1) := Have.get (k := 2) hn rfl
            simp only [e2] at hK
            have HK := Lib.hid hK
            clear hK hn
            go_simp
            have h9 := HK.out
            revert h9
            clear HK
            go_simp
            try exact id
          refine Steps.cons ?_ ?_
          · refine FreeStep.val [] _ rfl rfl fun u β W hW hn fr hfr K hK => ?_
            simp only [frameL, putL, Act.put, List.setIfInBounds_toArray, List.set_cons_zero, List.set_cons_succ, Nat.zero_add, Nat.reduceAdd] at hfr
            subst hfr
            have e1 : u 1 = .slice (some ⟨g, 0, none⟩) n ca := Have.get (k := 1) hn rfl
            have e3 : u 3 = .int .i64 (k : Int) := Have.get (k := 3) hn rfl
            simp only [e1, e3] at hK
            have HK := Lib.hid hK
            clear hK hn
            go_simp
            have h9 := HK.out
            revert h9
            clear HK
            go_simp
            try exact id
          refine Steps.cons ?_ ?_
          · refine FreeStep.val [] _ rfl rfl fun u β W hW hn fr hfr K hK => ?_
            simp only [frameL, putL, Act.put, List.setIfInBounds_toArray, List.set_cons_zero, List.set_cons_succ, Nat.zero_add, Nat.reduceAdd] at hfr
            subst hfr
            have e4 : u 4 = .pointer (some ⟨g, k * 2, none⟩) := Have.get (k := 4) hn rfl
            simp only [e4] at hK
            obtain ⟨⟨c0, c1⟩, c2, c3⟩ := HX.out W (HB.out.trans (hW.mono HB.out.size))
            have HK := Lib.hid hK
            clear hK hn
            go_simp
            have h9 := HK.out
            revert h9
            clear HK
            go_simp
            try exact id
          refine Steps.cons ?_ ?_
          · refine FreeStep.val [] _ rfl rfl fun u β W hW hn fr hfr K hK => ?_
            simp only [frameL, putL, Act.put, List.setIfInBounds_toArray, List.set_cons_zero, List.set_cons_succ, Nat.zero_add, Nat.reduceAdd] at hfr
            subst hfr
            have HK := Lib.hid hK
            clear hK hn
            go_simp
            have h9 := HK.out
            revert h9
            clear HK
            go_simp
            try exact id
          refine Steps.cons ?_ ?_
          · refine FreeStep.val [] _ rfl rfl fun u β W hW hn fr hfr K hK => ?_
            simp only [frameL, putL, Act.put, List.setIfInBounds_toArray, List.set_cons_zero, List.set_cons_succ, Nat.zero_add, Nat.reduceAdd] at hfr
            subst hfr
            have HK := Lib.hid hK
            clear hK hn
            go_simp
            have h9 := HK.out
            revert h9
            clear HK
            go_simp
            try exact id
          refine Steps.cons ?_ ?_
          · refine FreeStep.val [] _ rfl rfl fun u β W hW hn fr hfr K hK => ?_
            simp only [frameL, putL, Act.put, List.setIfInBounds_toArray, List.set_cons_zero, List.set_cons_succ, Nat.zero_add, Nat.reduceAdd] at hfr
            subst hfr
            have e6 : u 6 = .slice (some ⟨g, 0, none⟩) n ca := Have.get (k := 6) hn rfl
            have e7 : u 7 = .int .i64 ((k : Int) + 1) := Have.get (k := 7) hn rfl
            simp only [e6, e7] at hK
            have HK := Lib.hid hK
            clear hK hn
            go_simp
            have h9 := HK.out
            revert h9
            clear HK
            go_simp
            try exact id
          refine Steps.cons ?_ ?_
          · refine FreeStep.val [] _ rfl rfl fun u β W hW hn fr hfr K hK => ?_
            simp only [frameL, putL, Act.put, List.setIfInBounds_toArray, List.set_cons_zero, List.set_cons_succ, Nat.zero_add, Nat.reduceAdd] at hfr
            subst hfr
            have e8 : u 8 = .pointer (some ⟨g, (k + 1) * 2, none⟩) := Have.get (k := 8) hn rfl
            simp only [e8] at hK
            obtain ⟨⟨c0, c1⟩, c2, c3⟩ := HX.out W (HB.out.trans (hW.mono HB.out.size))
            have HK := Lib.hid hK
            clear hK hn
            go_simp
            have h9 := HK.out
            revert h9
            clear HK
            go_simp
            try exact id
          refine Steps.cons ?_ ?_
          · refine FreeStep.calm [] _ rfl rfl fun u β W hW hn fr hfr K hK => ?_
            simp only [frameL, putL, Act.put, List.setIfInBounds_toArray, List.set_cons_zero, List.set_cons_succ, Nat.zero_add, Nat.reduceAdd] at hfr
            subst hfr
            have e0 : u 0 = .func (.func 94) #[] #[] := Have.get (k := 0) hn rfl
            have e5 : u 5 = .agg #[.int .i64 x1, .int .i64 x2] := Have.get (k := 5) hn rfl
            have e9 : u 9 = .agg #[.int .i64 y1, .int .i64 y2] := Have.get (k := 9) hn rfl
            simp only [e0, e5, e9] at hK
            have Q := Lib.hid (QC.out W)
            have hcf := Hcf.out
            have HK := Lib.hid hK
            clear hK hn
            go_simp
            clear hcf
            refine Q.out.mono ?_
            rintro e w9 ⟨rfl, hb9⟩
            exact HK.out w9 hb9
          refine Steps.cons ?_ ?_
          · refine FreeStep.val [] _ rfl rfl fun u β W hW hn fr hfr K hK => ?_
            simp only [frameL, putL, Act.put, List.setIfInBounds_toArray, List.set_cons_zero, List.set_cons_succ, Nat.zero_add, Nat.reduceAdd] at hfr
            subst hfr
            have e10 : u 10 = .int .i64 z := Have.get (k := 10) hn rfl
            simp only [e10] at hK
            have HK := Lib.hid hK
            clear hK hn
            go_simp
            have h9 := HK.out
            revert h9
            clear HK
            go_simp
            try exact id
          exact Steps.nil
        case tailR =>
          intro u_ β_ W hW hn hdis hbnd
          have z0 : u_ 0 = .func (.func 94) #[] #[] := Have.get (k := 0) hn rfl
          have z1 : u_ 1 = .slice (some ⟨g, 0, none⟩) n ca := Have.get (k := 1) hn rfl
          have z2 : u_ 2 = .int .i64 ((k : Int) + 1) := Have.get (k := 2) hn rfl
          have z3 : u_ 3 = .int .i64 (k : Int) := Have.get (k := 3) hn rfl
          have z4 : u_ 4 = .pointer (some ⟨g, k * 2, none⟩) := Have.get (k := 4) hn rfl
          have z5 : u_ 5 = .agg #[.int .i64 x1, .int .i64 x2] := Have.get (k := 5) hn rfl
          have z6 : u_ 6 = .slice (some ⟨g, 0, none⟩) n ca := Have.get (k := 6) hn rfl
          have z7 : u_ 7 = .int .i64 ((k : Int) + 1) := Have.get (k := 7) hn rfl
          have z8 : u_ 8 = .pointer (some ⟨g, (k + 1) * 2, none⟩) := Have.get (k := 8) hn rfl
          have z9 : u_ 9 = .agg #[.int .i64 y1, .int .i64 y2] := Have.get (k := 9) hn rfl
          have z10 : u_ 10 = .int .i64 z := Have.get (k := 10) hn rfl
          have z11 : u_ 11 = .bool true := Have.get (k := 11) hn rfl
          rw [← frameL_eq (by kernel_rfl)]
          clear hn hdis hbnd
          simp only [frameL, putL, Act.put, List.setIfInBounds_toArray, List.set_cons_zero, List.set_cons_succ, Nat.zero_add, Nat.reduceAdd, z0, z1, z2, z3, z4, z5, z6, z7, z8, z9, z10, z11]
          clear z0 z1 z2 z3 z4 z5 z6 z7 z8 z9 z10 z11
          have hBW := HB.out.trans (hW.mono HB.out.size)
          have hno : Hid (upP xs n = false) := by rw [Hn.out]; exact HNO.out hxy
          clear HB
          go_wp2
          go_ret
          exact ⟨by rw [hno.out]; rfl, hBW⟩
    · have hall : Hid (upP xs n = true) := by
        rcases Nat.lt_or_ge k n with h | h
        · have e : n = k + 1 := by omega
          rw [e]; exact hU.out
        · have e : n = 0 := by omega
          rw [e]; rfl
      clear hU
      have hBW := HB.out
      clear HB
      go_wp2
      go_ret
      exact ⟨by rw [hall.out]; rfl, hBW⟩
end Go.Proofs.Yticmekdfdilcpaa
