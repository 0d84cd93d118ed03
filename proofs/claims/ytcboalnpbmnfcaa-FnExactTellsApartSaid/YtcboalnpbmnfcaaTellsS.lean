/- TellsApart of the model, and both sides. -/
import Derived.Test.YtcboalnpbmnfcaaTells
import Derived.Test.YtcboalnpbmnfcaaTakesS
import Derived.Test.YtcboalnpbmnfcaaFree
namespace Go.Proofs.Ytcboalnpbmnfcaa
open Go.RowKit
set_option linter.unusedVariables false

section
variable {base : Nat} {va vc vr vi : Value} {c : Ck} {bsC : List Nat}
set_option maxHeartbeats 12800000 in
set_option maxRecDepth 100000 in
theorem spec_Tells (u v f b : ByteArray) (bu bv bf bb : Bool) (w : World) (su : u.size ≤ 1048576) (sv : v.size ≤ 1048576) (sf : f.size ≤ 1048576) (sb : b.size ≤ 1048576) (hu : bu = true ↔ IsW u) (hv : bv = true ↔ IsW v) (hf : bf = true ↔ IsW f) (hb : bb = true ↔ IsW b)
    (hbd : BdC c) (hck : CkE base w (.agg #[.int .i64 c.stack, .int .i64 c.start, va, vc, vr, vi]) c bsC) :
    Calls Try.prog 16 #[.agg #[.int .i64 c.stack, .int .i64 c.start, va, vc, vr, vi], .string u, .string v, .agg #[.string f, .string b]] w (TupPost (.tuple #[.bool (tellsR c u v f b bu bv bf bb).1, .int .i64 (tellsR c u v f b bu bv bf bb).2]) w) := by
  obtain ⟨t0, ht0⟩ : ∃ t, t = c.stack := ⟨_, rfl⟩
  obtain ⟨t1, ht1⟩ : ∃ t, t = c.start := ⟨_, rfl⟩
  have hT := TX.new w (.int .i64 t0) (.int .i64 t1) va vc vr vi f b
  have h1 : Calls Try.prog 55 #[.pointer (some ⟨w.heap.size, 0, none⟩)] ((w.alloc (.cells #[.int .i64 t0, .int .i64 t1, va, vc, vr, vi] 33)).alloc (.cells #[.string f, .string b] 41)) (TupPost (.bool (okM c)) ((w.alloc (.cells #[.int .i64 t0, .int .i64 t1, va, vc, vr, vi] 33)).alloc (.cells #[.string f, .string b] 41))) := by
    rw [ht0, ht1] at hT ⊢
    refine (spec_okC w.heap.size _ hbd ((ck_ok _).later hck hT.below) hT.ck).mono ?_
    rintro e w1 ⟨rfl, m, rfl⟩
    exact ⟨rfl, below_drewN (Below.refl _ _) m⟩
  have HTT := Lib.hid fun (s : ByteArray) (W : World) (hT : TX w W (.int .i64 c.stack) (.int .i64 c.start) va vc vr vi f b) (hc : OkC c) (hw : IsW s) => spec_takes (C := w.heap.size) (s := s) W ((ck_ok _).later hck hT.below) hT.ck hc hw
  rw [← ht0, ← ht1] at HTT ⊢
  have HT := Lib.hid hT
  have H1 := Lib.hid h1
  have HOU := Lib.hid (fun W => spec_ok_b W su hu)
  have HOV := Lib.hid (fun W => spec_ok_b W sv hv)
  have HOF := Lib.hid (fun W => spec_ok_b W sf hf)
  have HOB := Lib.hid (fun W => spec_ok_b W sb hb)
  have HU := Lib.hid hu
  have HV_ := Lib.hid hv
  have HF_ := Lib.hid hf
  have HB_ := Lib.hid hb
  clear hck hbd hT ht0 ht1 hu hv hf hb h1
  generalize hR : tellsR c u v f b bu bv bf bb = R at *
  unfold tellsR at hR
  obtain ⟨ok, hok⟩ : ∃ r, r = okM c := ⟨_, rfl⟩
  rw [← hok] at H1 hR
  have Hok := Lib.hid hok
  clear hok
  go_enter Try.func16, Try.ntmps16
  go_wp2_with fail
  refine H1.out.mono ?_
  rintro e w1 ⟨rfl, hb1⟩
  have hT1 := HT.out.later hb1
  have HS1 := Lib.hid hT1
  clear H1 HT hb1 hT1
  cases ok with
  | false =>
    simp only [Bool.and_false, if_true] at hR
    subst hR
    go_wp2
    go_ret2
    exact ⟨rfl, HS1.out.below⟩
  | true =>
    go_wp2_with fail
    refine (HOU.out _).mono ?_
    rintro e w' ⟨rfl, rfl⟩
    cases bu with
    | false =>
      simp only [Bool.false_and, if_true] at hR
      subst hR
      go_wp2
      go_ret2
      exact ⟨rfl, HS1.out.below⟩
    | true =>
      go_wp2_with fail
      refine (HOV.out _).mono ?_
      rintro e w' ⟨rfl, rfl⟩
      cases bv with
      | false =>
        simp only [Bool.and_false, Bool.false_and, if_true] at hR
        subst hR
        go_wp2
        go_ret2
        exact ⟨rfl, HS1.out.below⟩
      | true =>
        obtain ⟨x0, x1, xl⟩ := id HS1.out.cx.all2
        go_wp2_with fail
        refine (HOF.out _).mono ?_
        rintro e w' ⟨rfl, rfl⟩
        cases bf with
        | false =>
          simp only [Bool.and_false, Bool.false_and, if_true] at hR
          subst hR
          go_wp2
          go_ret2
          exact ⟨rfl, HS1.out.below⟩
        | true =>
          go_wp2_with fail
          refine (HOB.out _).mono ?_
          rintro e w' ⟨rfl, rfl⟩
          cases bb with
          | false =>
            simp only [Bool.and_false, Bool.false_and, if_true] at hR
            subst hR
            go_wp2
            go_ret2
            exact ⟨rfl, HS1.out.below⟩
          | true =>
            simp only [Bool.and_self, Bool.true_eq_false, if_false] at hR
            have hwu := HU.out.1 (by trivial)
            have hwv := HV_.out.1 (by trivial)
            have Hbf := Lib.hid (And.intro (HF_.out.1 (by trivial)) (HB_.out.1 (by trivial)))
            obtain ⟨m1, hm1⟩ : ∃ r, r = matB u.data.toList := ⟨_, rfl⟩
            obtain ⟨m2, hm2⟩ : ∃ r, r = matB v.data.toList := ⟨_, rfl⟩
            have HM1 := Lib.hid (fun W => spec_mat u W hwu)
            have HM2 := Lib.hid (fun W => spec_mat v W hwv)
            rw [← hm1] at HM1 hR
            rw [← hm2] at HM2 hR
            clear hm1 hm2 x0 x1 xl
            go_wp2_with fail
            refine (HM1.out _).mono ?_
            rintro e w2 ⟨rfl, hb2⟩
            have hT2 := HS1.out.later hb2
            have HS2 := Lib.hid hT2
            clear HS1 hb2 hT2
            cases m1 with
            | false =>
              simp only [Bool.false_and, if_true] at hR
              subst hR
              go_wp2
              go_ret2
              exact ⟨rfl, HS2.out.below⟩
            | true =>
              simp only [Bool.true_and] at hR
              go_wp2_with fail
              refine (HM2.out _).mono ?_
              rintro e w3 ⟨rfl, hb3⟩
              have hT3 := HS2.out.later hb3
              have HS3 := Lib.hid hT3
              clear HS2 hb3
              cases m2 with
              | false =>
                simp only [if_true] at hR
                clear hT3
                subst hR
                go_wp2
                go_ret2
                exact ⟨rfl, HS3.out.below⟩
              | true =>
                simp only [Bool.true_eq_false, if_false] at hR
                obtain ⟨x0, x1, xl⟩ := id hT3.cx.all2
                by_cases h60 : 60 < f.size + u.size + b.size
                · simp only [h60, if_true] at hR
                  have h60i : (60 : Int) < (f.size : Int) + (u.size : Int) + (b.size : Int) := by omega
                  clear hT3
                  subst hR
                  go_wp2
                  go_ret2
                  exact ⟨rfl, HS3.out.below⟩
                · simp only [h60, if_false] at hR
                  have h60i : ¬ (60 : Int) < (f.size : Int) + (u.size : Int) + (b.size : Int) := by omega
                  by_cases h61 : 60 < f.size + v.size + b.size
                  · simp only [h61, if_true] at hR
                    have h61i : (60 : Int) < (f.size : Int) + (v.size : Int) + (b.size : Int) := by omega
                    clear hT3
                    subst hR
                    go_wp2
                    go_ret2
                    exact ⟨rfl, HS3.out.below⟩
                  · simp only [h61, if_false] at hR
                    have h61i : ¬ (60 : Int) < (f.size : Int) + (v.size : Int) + (b.size : Int) := by omega
                    have hcw : OkC c := okC_of Hok.out.symm
                    have hiu := isW_cat3 Hbf.out.1 hwu Hbf.out.2 (by omega)
                    have hiv := isW_cat3 Hbf.out.1 hwv Hbf.out.2 (by omega)
                    obtain ⟨ru, hru⟩ : ∃ r, r = takesM c (f ++ u ++ b).data.toList := ⟨_, rfl⟩
                    obtain ⟨rv, hrv⟩ : ∃ r, r = takesM c (f ++ v ++ b).data.toList := ⟨_, rfl⟩
                    have HTU := Lib.hid (fun W hW => HTT.out (f ++ u ++ b) W hW hcw hiu)
                    have HTV := Lib.hid (fun W hW => HTT.out (f ++ v ++ b) W hW hcw hiv)
                    rw [← hru] at HTU hR
                    rw [← hrv] at HTV hR
                    subst hR
                    clear hru hrv hcw hiu hiv HTT hT3 HOU HOV HOF HOB HM1 HM2
                    obtain ⟨s1, rfl⟩ : ∃ s, s = u := ⟨_, rfl⟩
                    obtain ⟨s2, rfl⟩ : ∃ s, s = v := ⟨_, rfl⟩
                    go_upto_region 7 with fail
                    refine wp_region_free (by kernel_rfl) [
                        .val [] (fun _ => .pointer (some ⟨w.heap.size + 1, 0, none⟩)),
                        .val [] (fun _ => .string f),
                        .val [] (fun _ => .string s1),
                        .val [] (fun _ => .string (f ++ s1)),
                        .val [] (fun _ => .pointer (some ⟨w.heap.size + 1, 1, none⟩)),
                        .val [] (fun _ => .string b),
                        .val [] (fun _ => .string (f ++ s1 ++ b)),
                        .val [] (fun _ => .bool ru),
                        .val [] (fun _ => .pointer (some ⟨w.heap.size + 1, 0, none⟩)),
                        .val [] (fun _ => .string f),
                        .val [] (fun _ => .string s2),
                        .val [] (fun _ => .string (f ++ s2)),
                        .val [] (fun _ => .pointer (some ⟨w.heap.size + 1, 1, none⟩)),
                        .val [] (fun _ => .string b),
                        .val [] (fun _ => .string (f ++ s2 ++ b)),
                        .val [] (fun _ => .bool rv),
                        .val [] (fun _ => .bool (ru != rv)),
                        .val [] (fun _ => .bool (ru != rv)),
                        .val [] (fun _ => .int .i64 0)] ?hp ?hfw ?deps ?oks ?steps ?tail
                    case hp => kernel_rfl
                    case hfw => kernel_rfl
                    case deps => kernel_rfl
                    case oks =>
                      intro F hF
                      simp only [List.mem_cons, List.not_mem_nil, or_false] at hF
                      rcases hF with rfl | rfl | rfl | rfl | rfl | rfl | rfl | rfl | rfl | rfl | rfl | rfl | rfl | rfl | rfl | rfl | rfl | rfl | rfl
                      all_goals trivial
                    case steps =>
                      refine Steps.cons ?_ ?_
                      · refine FreeStep.val [] _ rfl rfl fun u β W hW hn fr hfr K hK => ?_
                        simp only [frameL, putL, Act.put, List.setIfInBounds_toArray, List.set_cons_zero, List.set_cons_succ, Nat.zero_add, Nat.reduceAdd] at hfr
                        subst hfr
                        have HK := Lib.hid hK
                        clear hK hn
                        go_simp
                        exact HK.out
                      refine Steps.cons ?_ ?_
                      · refine FreeStep.val [] _ rfl rfl fun u β W hW hn fr hfr K hK => ?_
                        simp only [frameL, putL, Act.put, List.setIfInBounds_toArray, List.set_cons_zero, List.set_cons_succ, Nat.zero_add, Nat.reduceAdd] at hfr
                        subst hfr
                        have e0 : u 0 = .pointer (some ⟨w.heap.size + 1, 0, none⟩) := Have.get (k := 0) hn rfl
                        simp only [e0] at hK
                        obtain ⟨x0, x1, xl⟩ := id (HS3.out.cx.later hW).all2
                        have HK := Lib.hid hK
                        clear hK hn
                        go_simp
                        exact HK.out
                      refine Steps.cons ?_ ?_
                      · refine FreeStep.val [] _ rfl rfl fun u β W hW hn fr hfr K hK => ?_
                        simp only [frameL, putL, Act.put, List.setIfInBounds_toArray, List.set_cons_zero, List.set_cons_succ, Nat.zero_add, Nat.reduceAdd] at hfr
                        subst hfr
                        have HK := Lib.hid hK
                        clear hK hn
                        go_simp
                        exact HK.out
                      refine Steps.cons ?_ ?_
                      · refine FreeStep.val [] _ rfl rfl fun u β W hW hn fr hfr K hK => ?_
                        simp only [frameL, putL, Act.put, List.setIfInBounds_toArray, List.set_cons_zero, List.set_cons_succ, Nat.zero_add, Nat.reduceAdd] at hfr
                        subst hfr
                        have e1 : u 1 = .string f := Have.get (k := 1) hn rfl
                        have e2 : u 2 = .string s1 := Have.get (k := 2) hn rfl
                        simp only [e1, e2] at hK
                        have HK := Lib.hid hK
                        clear hK hn
                        go_simp
                        rw [if_neg (show ¬ 9223372036854775807 < f.size + s1.size by omega)]
                        go_simp
                        exact HK.out
                      refine Steps.cons ?_ ?_
                      · refine FreeStep.val [] _ rfl rfl fun u β W hW hn fr hfr K hK => ?_
                        simp only [frameL, putL, Act.put, List.setIfInBounds_toArray, List.set_cons_zero, List.set_cons_succ, Nat.zero_add, Nat.reduceAdd] at hfr
                        subst hfr
                        have HK := Lib.hid hK
                        clear hK hn
                        go_simp
                        exact HK.out
                      refine Steps.cons ?_ ?_
                      · refine FreeStep.val [] _ rfl rfl fun u β W hW hn fr hfr K hK => ?_
                        simp only [frameL, putL, Act.put, List.setIfInBounds_toArray, List.set_cons_zero, List.set_cons_succ, Nat.zero_add, Nat.reduceAdd] at hfr
                        subst hfr
                        have e4 : u 4 = .pointer (some ⟨w.heap.size + 1, 1, none⟩) := Have.get (k := 4) hn rfl
                        simp only [e4] at hK
                        obtain ⟨x0, x1, xl⟩ := id (HS3.out.cx.later hW).all2
                        have HK := Lib.hid hK
                        clear hK hn
                        go_simp
                        exact HK.out
                      refine Steps.cons ?_ ?_
                      · refine FreeStep.val [] _ rfl rfl fun u β W hW hn fr hfr K hK => ?_
                        simp only [frameL, putL, Act.put, List.setIfInBounds_toArray, List.set_cons_zero, List.set_cons_succ, Nat.zero_add, Nat.reduceAdd] at hfr
                        subst hfr
                        have e3 : u 3 = .string (f ++ s1) := Have.get (k := 3) hn rfl
                        have e5 : u 5 = .string b := Have.get (k := 5) hn rfl
                        simp only [e3, e5] at hK
                        have HK := Lib.hid hK
                        clear hK hn
                        go_simp
                        rw [if_neg (show ¬ 9223372036854775807 < f.size + s1.size + b.size by omega)]
                        go_simp
                        exact HK.out
                      refine Steps.cons ?_ ?_
                      · refine FreeStep.calm [] _ rfl rfl fun u β W hW hn fr hfr K hK => ?_
                        simp only [frameL, putL, Act.put, List.setIfInBounds_toArray, List.set_cons_zero, List.set_cons_succ, Nat.zero_add, Nat.reduceAdd] at hfr
                        subst hfr
                        have e6 : u 6 = .string (f ++ s1 ++ b) := Have.get (k := 6) hn rfl
                        simp only [e6] at hK
                        have HQ := Lib.hid (HTU.out W (HS3.out.later hW))
                        have HK := Lib.hid hK
                        clear hK hn
                        go_simp
                        refine HQ.out.mono ?_
                        rintro e w9 ⟨rfl, hb9⟩
                        exact HK.out _ hb9
                      refine Steps.cons ?_ ?_
                      · refine FreeStep.val [] _ rfl rfl fun u β W hW hn fr hfr K hK => ?_
                        simp only [frameL, putL, Act.put, List.setIfInBounds_toArray, List.set_cons_zero, List.set_cons_succ, Nat.zero_add, Nat.reduceAdd] at hfr
                        subst hfr
                        have HK := Lib.hid hK
                        clear hK hn
                        go_simp
                        exact HK.out
                      refine Steps.cons ?_ ?_
                      · refine FreeStep.val [] _ rfl rfl fun u β W hW hn fr hfr K hK => ?_
                        simp only [frameL, putL, Act.put, List.setIfInBounds_toArray, List.set_cons_zero, List.set_cons_succ, Nat.zero_add, Nat.reduceAdd] at hfr
                        subst hfr
                        have e8 : u 8 = .pointer (some ⟨w.heap.size + 1, 0, none⟩) := Have.get (k := 8) hn rfl
                        simp only [e8] at hK
                        obtain ⟨x0, x1, xl⟩ := id (HS3.out.cx.later hW).all2
                        have HK := Lib.hid hK
                        clear hK hn
                        go_simp
                        exact HK.out
                      refine Steps.cons ?_ ?_
                      · refine FreeStep.val [] _ rfl rfl fun u β W hW hn fr hfr K hK => ?_
                        simp only [frameL, putL, Act.put, List.setIfInBounds_toArray, List.set_cons_zero, List.set_cons_succ, Nat.zero_add, Nat.reduceAdd] at hfr
                        subst hfr
                        have HK := Lib.hid hK
                        clear hK hn
                        go_simp
                        exact HK.out
                      refine Steps.cons ?_ ?_
                      · refine FreeStep.val [] _ rfl rfl fun u β W hW hn fr hfr K hK => ?_
                        simp only [frameL, putL, Act.put, List.setIfInBounds_toArray, List.set_cons_zero, List.set_cons_succ, Nat.zero_add, Nat.reduceAdd] at hfr
                        subst hfr
                        have e9 : u 9 = .string f := Have.get (k := 9) hn rfl
                        have e10 : u 10 = .string s2 := Have.get (k := 10) hn rfl
                        simp only [e9, e10] at hK
                        have HK := Lib.hid hK
                        clear hK hn
                        go_simp
                        rw [if_neg (show ¬ 9223372036854775807 < f.size + s2.size by omega)]
                        go_simp
                        exact HK.out
                      refine Steps.cons ?_ ?_
                      · refine FreeStep.val [] _ rfl rfl fun u β W hW hn fr hfr K hK => ?_
                        simp only [frameL, putL, Act.put, List.setIfInBounds_toArray, List.set_cons_zero, List.set_cons_succ, Nat.zero_add, Nat.reduceAdd] at hfr
                        subst hfr
                        have HK := Lib.hid hK
                        clear hK hn
                        go_simp
                        exact HK.out
                      refine Steps.cons ?_ ?_
                      · refine FreeStep.val [] _ rfl rfl fun u β W hW hn fr hfr K hK => ?_
                        simp only [frameL, putL, Act.put, List.setIfInBounds_toArray, List.set_cons_zero, List.set_cons_succ, Nat.zero_add, Nat.reduceAdd] at hfr
                        subst hfr
                        have e12 : u 12 = .pointer (some ⟨w.heap.size + 1, 1, none⟩) := Have.get (k := 12) hn rfl
                        simp only [e12] at hK
                        obtain ⟨x0, x1, xl⟩ := id (HS3.out.cx.later hW).all2
                        have HK := Lib.hid hK
                        clear hK hn
                        go_simp
                        exact HK.out
                      refine Steps.cons ?_ ?_
                      · refine FreeStep.val [] _ rfl rfl fun u β W hW hn fr hfr K hK => ?_
                        simp only [frameL, putL, Act.put, List.setIfInBounds_toArray, List.set_cons_zero, List.set_cons_succ, Nat.zero_add, Nat.reduceAdd] at hfr
                        subst hfr
                        have e11 : u 11 = .string (f ++ s2) := Have.get (k := 11) hn rfl
                        have e13 : u 13 = .string b := Have.get (k := 13) hn rfl
                        simp only [e11, e13] at hK
                        have HK := Lib.hid hK
                        clear hK hn
                        go_simp
                        rw [if_neg (show ¬ 9223372036854775807 < f.size + s2.size + b.size by omega)]
                        go_simp
                        exact HK.out
                      refine Steps.cons ?_ ?_
                      · refine FreeStep.calm [] _ rfl rfl fun u β W hW hn fr hfr K hK => ?_
                        simp only [frameL, putL, Act.put, List.setIfInBounds_toArray, List.set_cons_zero, List.set_cons_succ, Nat.zero_add, Nat.reduceAdd] at hfr
                        subst hfr
                        have e14 : u 14 = .string (f ++ s2 ++ b) := Have.get (k := 14) hn rfl
                        simp only [e14] at hK
                        have HQ := Lib.hid (HTV.out W (HS3.out.later hW))
                        have HK := Lib.hid hK
                        clear hK hn
                        go_simp
                        refine HQ.out.mono ?_
                        rintro e w9 ⟨rfl, hb9⟩
                        exact HK.out _ hb9
                      refine Steps.cons ?_ ?_
                      · refine FreeStep.val [] _ rfl rfl fun u β W hW hn fr hfr K hK => ?_
                        simp only [frameL, putL, Act.put, List.setIfInBounds_toArray, List.set_cons_zero, List.set_cons_succ, Nat.zero_add, Nat.reduceAdd] at hfr
                        subst hfr
                        have e7 : u 7 = .bool ru := Have.get (k := 7) hn rfl
                        have e15 : u 15 = .bool rv := Have.get (k := 15) hn rfl
                        simp only [e7, e15] at hK
                        have HK := Lib.hid hK
                        clear hK hn
                        go_simp
                        exact HK.out
                      refine Steps.cons ?_ ?_
                      · refine FreeStep.val [] _ rfl rfl fun u β W hW hn fr hfr K hK => ?_
                        simp only [frameL, putL, Act.put, List.setIfInBounds_toArray, List.set_cons_zero, List.set_cons_succ, Nat.zero_add, Nat.reduceAdd] at hfr
                        subst hfr
                        have e16 : u 16 = .bool (ru != rv) := Have.get (k := 16) hn rfl
                        simp only [e16] at hK
                        have HK := Lib.hid hK
                        clear hK hn
                        go_simp
                        exact HK.out
                      refine Steps.cons ?_ ?_
                      · refine FreeStep.val [] _ rfl rfl fun u β W hW hn fr hfr K hK => ?_
                        simp only [frameL, putL, Act.put, List.setIfInBounds_toArray, List.set_cons_zero, List.set_cons_succ, Nat.zero_add, Nat.reduceAdd] at hfr
                        subst hfr
                        have HK := Lib.hid hK
                        clear hK hn
                        go_simp
                        exact HK.out
                      exact Steps.nil
                    case tail =>
                      intro u_ β W hW hn hdis hbnd
                      have z0 : u_ 0 = .pointer (some ⟨w.heap.size + 1, 0, none⟩) := Have.get (k := 0) hn rfl
                      have z1 : u_ 1 = .string f := Have.get (k := 1) hn rfl
                      have z2 : u_ 2 = .string s1 := Have.get (k := 2) hn rfl
                      have z3 : u_ 3 = .string (f ++ s1) := Have.get (k := 3) hn rfl
                      have z4 : u_ 4 = .pointer (some ⟨w.heap.size + 1, 1, none⟩) := Have.get (k := 4) hn rfl
                      have z5 : u_ 5 = .string b := Have.get (k := 5) hn rfl
                      have z6 : u_ 6 = .string (f ++ s1 ++ b) := Have.get (k := 6) hn rfl
                      have z7 : u_ 7 = .bool ru := Have.get (k := 7) hn rfl
                      have z8 : u_ 8 = .pointer (some ⟨w.heap.size + 1, 0, none⟩) := Have.get (k := 8) hn rfl
                      have z9 : u_ 9 = .string f := Have.get (k := 9) hn rfl
                      have z10 : u_ 10 = .string s2 := Have.get (k := 10) hn rfl
                      have z11 : u_ 11 = .string (f ++ s2) := Have.get (k := 11) hn rfl
                      have z12 : u_ 12 = .pointer (some ⟨w.heap.size + 1, 1, none⟩) := Have.get (k := 12) hn rfl
                      have z13 : u_ 13 = .string b := Have.get (k := 13) hn rfl
                      have z14 : u_ 14 = .string (f ++ s2 ++ b) := Have.get (k := 14) hn rfl
                      have z15 : u_ 15 = .bool rv := Have.get (k := 15) hn rfl
                      have z16 : u_ 16 = .bool (ru != rv) := Have.get (k := 16) hn rfl
                      have z17 : u_ 17 = .bool (ru != rv) := Have.get (k := 17) hn rfl
                      have z18 : u_ 18 = .int .i64 0 := Have.get (k := 18) hn rfl
                      rw [← frameL_eq (by kernel_rfl)]
                      clear hn hdis hbnd
                      simp only [frameL, putL, Act.put, List.setIfInBounds_toArray, List.set_cons_zero, List.set_cons_succ, Nat.zero_add, Nat.reduceAdd, z0, z1, z2, z3, z4, z5, z6, z7, z8, z9, z10, z11, z12, z13, z14, z15, z16, z17, z18]
                      have hBf := HS3.out.below.trans (hW.mono HS3.out.below.size)
                      clear HS3 HTU HTV
                      go_wp2
                      go_ret2
                      exact ⟨rfl, hBf⟩
end
theorem both_TellsApart (c : Ck) (u v f b : ByteArray) (su : u.size ≤ 1048576) (sv : v.size ≤ 1048576) (sf : f.size ≤ 1048576) (sb : b.size ≤ 1048576) : ∃ (r0 : Bool) (r1 : Int),
    (∀ base x bs w, BdC c → CkE base w x c bs → Calls Try.prog 16 #[x, .string u, .string v, .agg #[.string f, .string b]] w (TupPost (.tuple #[.bool r0, .int .i64 r1]) w)) ∧
    (∀ base x bs w, BdC c → CkE base w x c bs → Calls Try.prog 18 #[x, .string u, .string v, .agg #[.string f, .string b]] w (TupPost (.tuple #[.bool r0, .int .i64 r1]) w)) := by
  obtain ⟨bu, hu⟩ := isW_b u
  obtain ⟨bv, hv⟩ := isW_b v
  obtain ⟨bf, hf⟩ := isW_b f
  obtain ⟨bb, hb⟩ := isW_b b
  refine ⟨(tellsR c u v f b bu bv bf bb).1, (tellsR c u v f b bu bv bf bb).2, fun base x bs w hbd hck => ?_, fun base x bs w hbd hck => ?_⟩
  · have hck' := hck
    obtain ⟨va, vc, vr, vi, _, _, _, _, rfl, _⟩ := hck'
    exact spec_Tells u v f b bu bv bf bb w su sv sf sb hu hv hf hb hbd hck
  · have hck' := hck
    obtain ⟨va, vc, vr, vi, _, _, _, _, rfl, _⟩ := hck'
    exact impl_Tells u v f b bu bv bf bb w su sv sf sb hu hv hf hb hbd hck
end Go.Proofs.Ytcboalnpbmnfcaa
