/- TellsApart of the program. -/
import Derived.Test.YtcboalnpbmnfcaaTells0
import Derived.Test.YtcboalnpbmnfcaaFree
namespace Go.Proofs.Ytcboalnpbmnfcaa
open Go.RowKit
set_option linter.unusedVariables false

/-- What TellsApart holds while it runs: its boxes. -/
structure TX (w X : World) (v0 v1 v2 v3 v4 v5 : Value) (f b : ByteArray) : Prop where
  below : Below w.heap.size w X
  ck : Box6 X w.heap.size v0 v1 v2 v3 v4 v5
  cx : Bx X (w.heap.size + 1) 41 #[.string f, .string b]
theorem TX.later {w X Y : World} {v0 v1 v2 v3 v4 v5 : Value} {f b : ByteArray} (h : TX w X v0 v1 v2 v3 v4 v5 f b) (hb : Below X.heap.size X Y) : TX w Y v0 v1 v2 v3 v4 v5 f b := ⟨h.below.trans (hb.mono h.below.size), h.ck.later hb, h.cx.later hb⟩
theorem TX.alloc {w X : World} {v0 v1 v2 v3 v4 v5 : Value} {f b : ByteArray} (h : TX w X v0 v1 v2 v3 v4 v5 f b) (o : Obj) : TX w (X.alloc o) v0 v1 v2 v3 v4 v5 f b := h.later ((Below.refl _ _).alloc (Nat.le_refl _) o)
theorem TX.new (w : World) (v0 v1 v2 v3 v4 v5 : Value) (f b : ByteArray) : TX w ((w.alloc (.cells #[v0, v1, v2, v3, v4, v5] 33)).alloc (.cells #[.string f, .string b] 41)) v0 v1 v2 v3 v4 v5 f b := by
  refine ⟨((Below.refl w.heap.size w).alloc (Nat.le_refl _) _).alloc (by simp) _, (Box6.new w v0 v1 v2 v3 v4 v5 33).later ((Below.refl _ _).alloc (Nat.le_refl _) _), ?_⟩
  have t := Bx.new (w.alloc (.cells #[v0, v1, v2, v3, v4, v5] 33)) 41 #[.string f, .string b]
  rwa [World.size_alloc] at t
/-- A nested word in a box. -/
structure NX (X : World) (B g M : Nat) (s : ByteArray) : Prop where
  box : Bx X B 88 #[.slice (some ⟨g, 0, none⟩) s.size s.size, .slice (some ⟨M, 0, none⟩) s.size s.size]
  sy : ∃ b', X.ownsRow b' 162 1 (.slice (some ⟨g, 0, none⟩) s.size s.size) s.size (symsV (symL s.data.toList))
  ps : ∃ b', X.ownsRow b' 2 1 (.slice (some ⟨M, 0, none⟩) s.size s.size) s.size (numsV (prts (ksOf s.data.toList)))
theorem NX.later {X Y : World} {B g M : Nat} {s : ByteArray} (h : NX X B g M s) (hb : Below X.heap.size X Y) : NX Y B g M s := by
  obtain ⟨b1, h1⟩ := h.sy
  obtain ⟨b2, h2⟩ := h.ps
  exact ⟨h.box.later hb, ⟨b1, row_below h1 hb⟩, ⟨b2, row_below h2 hb⟩⟩
theorem NX.alloc {X : World} {B g M : Nat} {s : ByteArray} (h : NX X B g M s) (o : Obj) : NX (X.alloc o) B g M s := h.later ((Below.refl _ _).alloc (Nat.le_refl _) o)
theorem NX.mat {X : World} {B g M : Nat} {s : ByteArray} (h : NX X B g M s) (hw : IsW s) : Calls Try.prog 61 #[.agg #[.slice (some ⟨g, 0, none⟩) s.size s.size, .slice (some ⟨M, 0, none⟩) s.size s.size]] X (TupPost (.bool (matB s.data.toList)) X) := by
  obtain ⟨b1, h1⟩ := h.sy
  obtain ⟨b2, h2⟩ := h.ps
  exact impl_mat hw h1 h2
theorem read_yes' (s : ByteArray) (w : World) (h : IsW s) : Calls Try.prog 58 #[.string s] w fun e w' => ∃ g M, e = .returned (.tuple #[.agg #[.slice (some ⟨g, 0, none⟩) s.size s.size, .slice (some ⟨M, 0, none⟩) s.size s.size], .bool true]) ∧ NX (w'.alloc (.cells #[.slice (some ⟨g, 0, none⟩) s.size s.size, .slice (some ⟨M, 0, none⟩) s.size s.size] 88)) w'.heap.size g M s ∧ Below w.heap.size w w' := by
  refine (impl_read_yes s w h.1 h.2).mono ?_
  rintro e w1 ⟨M, rfl, hsy, hps, hb⟩
  have hal := (Below.refl w1.heap.size w1).alloc (Nat.le_refl _) (.cells #[.slice (some ⟨w.heap.size + 1 + 1, 0, none⟩) s.size s.size, .slice (some ⟨M, 0, none⟩) s.size s.size] 88)
  exact ⟨_, M, rfl, ⟨Bx.new _ _ _, ⟨_, row_below hsy hal⟩, ⟨_, row_below hps hal⟩⟩, hb⟩
theorem read_any (s : ByteArray) (w : World) (hs : s.size ≤ 1048576) : Calls Try.prog 58 #[.string s] w fun e w' => ∃ A n k A' n' k' bo, e = .returned (.tuple #[.agg #[.slice A n k, .slice A' n' k'], .bool bo]) ∧ Below w.heap.size w w' := by
  by_cases h : IsW s
  · refine (read_yes' s w h).mono ?_
    rintro e w1 ⟨g, M, rfl, _, hb⟩
    exact ⟨_, _, _, _, _, _, _, rfl, hb⟩
  · refine (impl_read_no s w hs h).mono ?_
    rintro e w1 ⟨rfl, hb⟩
    exact ⟨_, _, _, _, _, _, _, rfl, hb⟩
theorem isW_cat {s t : ByteArray} (hs : IsW s) (ht : IsW t) (h : s.size + t.size ≤ 60) : IsW (s ++ t) := by
  refine ⟨by rw [ByteArray.size_append]; exact h, fun x hx => ?_⟩
  have e : (s ++ t).data.toList = s.data.toList ++ t.data.toList := by simp
  rw [e] at hx
  rcases List.mem_append.1 hx with hx | hx
  · exact hs.2 x hx
  · exact ht.2 x hx
theorem isW_cat3 {s t u : ByteArray} (hs : IsW s) (ht : IsW t) (hu : IsW u) (h : s.size + t.size + u.size ≤ 60) : IsW (s ++ t ++ u) := isW_cat (isW_cat hs ht (by omega)) hu (by rw [ByteArray.size_append]; omega)

/-- What TellsApart answers. -/
def tellsR (c : Ck) (u v f b : ByteArray) (bu bv bf bb : Bool) : Bool × Int :=
  if (bu && bv && (bf && bb) && okM c) = false then (false, 1) else if (matB u.data.toList && matB v.data.toList) = false then (false, 4)
  else if 60 < f.size + u.size + b.size then (false, 3) else if 60 < f.size + v.size + b.size then (false, 3)
  else (takesM c (f ++ u ++ b).data.toList != takesM c (f ++ v ++ b).data.toList, 0)

section
variable {base : Nat} {va vc vr vi : Value} {c : Ck} {bsC : List Nat}
set_option maxHeartbeats 12800000 in
set_option maxRecDepth 100000 in
theorem impl_Tells (u v f b : ByteArray) (bu bv bf bb : Bool) (w : World) (su : u.size ≤ 1048576) (sv : v.size ≤ 1048576) (sf : f.size ≤ 1048576) (sb : b.size ≤ 1048576) (hu : bu = true ↔ IsW u) (hv : bv = true ↔ IsW v) (hf : bf = true ↔ IsW f) (hb : bb = true ↔ IsW b)
    (hbd : BdC c) (hck : CkE base w (.agg #[.int .i64 c.stack, .int .i64 c.start, va, vc, vr, vi]) c bsC) :
    Calls Try.prog 18 #[.agg #[.int .i64 c.stack, .int .i64 c.start, va, vc, vr, vi], .string u, .string v, .agg #[.string f, .string b]] w (TupPost (.tuple #[.bool (tellsR c u v f b bu bv bf bb).1, .int .i64 (tellsR c u v f b bu bv bf bb).2]) w) := by
  obtain ⟨t0, ht0⟩ : ∃ t, t = c.stack := ⟨_, rfl⟩
  obtain ⟨t1, ht1⟩ : ∃ t, t = c.start := ⟨_, rfl⟩
  have hT := TX.new w (.int .i64 t0) (.int .i64 t1) va vc vr vi f b
  have HVC := Lib.hid fun (W : World) (hW : Below w.heap.size w W) => impl_ValidChecker W hbd ((ck_ok _).later hck hW)
  have HTT := Lib.hid fun (s : ByteArray) (W : World) (hW : Below w.heap.size w W) (hg : GivenM c s) => impl_takesText s W hbd ((ck_ok _).later hck hW) hg
  have HTR : Hid (tellsR c u v f b bu bv bf bb = _) := Lib.hid rfl
  rw [← ht0, ← ht1] at HVC HTT ⊢
  have HT := Lib.hid hT
  have HAW := Lib.hid fun (W : World) (g : Nat) c0 c1 => impl_areWords (g := g) W sf sb hf hb c0 c1
  have HU := Lib.hid hu
  have HV_ := Lib.hid hv
  have HF_ := Lib.hid hf
  have HB_ := Lib.hid hb
  clear hck hbd hT ht0 ht1 hu hv hf hb
  generalize hR : tellsR c u v f b bu bv bf bb = R at *
  unfold tellsR at hR
  cases bu with
  | false =>
    have Hno := Lib.hid (fun W => impl_read_no u W su (fun h => by have := HU.out.2 h; cases this))
    simp only [Bool.false_and, if_true] at hR
    subst hR
    clear HTR
    go_enter Try.func18, Try.ntmps18
    go_wp2_with fail
    refine (Hno.out _).mono ?_
    rintro e w1 ⟨rfl, hb1⟩
    go_wp2_with fail
    refine (read_any v _ sv).mono ?_
    rintro e w2 ⟨A, n, k, A', n', k', bo, rfl, hb2⟩
    have hE := (((HT.out.later hb1).alloc _).later hb2).alloc (.cells #[.slice A n k, .slice A' n' k'] 88)
    go_wp2
    go_ret2
    exact ⟨rfl, hE.below⟩
  | true =>
    have hwu := HU.out.1 rfl
    have Hru := Lib.hid (fun W => read_yes' u W hwu)
    cases bv with
    | false =>
      have Hno := Lib.hid (fun W => impl_read_no v W sv (fun h => by have := HV_.out.2 h; cases this))
      simp only [Bool.and_false, Bool.false_and, if_true] at hR
      subst hR
      clear HTR
      go_enter Try.func18, Try.ntmps18
      go_wp2_with fail
      refine (Hru.out _).mono ?_
      rintro e w1 ⟨g1, M1, rfl, hN1, hb1⟩
      go_wp2_with fail
      refine (Hno.out _).mono ?_
      rintro e w2 ⟨rfl, hb2⟩
      have hE := (((HT.out.later hb1).alloc _).later hb2).alloc (.cells #[.slice none 0 0, .slice none 0 0] 88)
      go_wp2
      go_ret2
      exact ⟨rfl, hE.below⟩
    | true =>
      have hwv := HV_.out.1 rfl
      have Hrv := Lib.hid (fun W => read_yes' v W hwv)
      simp only [Bool.true_and] at hR
      go_enter Try.func18, Try.ntmps18
      go_wp2_with fail
      refine (Hru.out _).mono ?_
      rintro e w1 ⟨g1, M1, rfl, hN1, hb1⟩
      have hT1 := (HT.out.later hb1).alloc (.cells #[.slice (some ⟨g1, 0, none⟩) u.size u.size, .slice (some ⟨M1, 0, none⟩) u.size u.size] 88)
      have HS1 := Lib.hid (And.intro hN1 hT1)
      clear hb1 hN1 hT1
      go_wp2_with fail
      refine (Hrv.out _).mono ?_
      rintro e w2 ⟨g2, M2, rfl, hN2, hb2⟩
      have hT2 := (HS1.out.2.later hb2).alloc (.cells #[.slice (some ⟨g2, 0, none⟩) v.size v.size, .slice (some ⟨M2, 0, none⟩) v.size v.size] 88)
      have hN1 := (HS1.out.1.later hb2).alloc (.cells #[.slice (some ⟨g2, 0, none⟩) v.size v.size, .slice (some ⟨M2, 0, none⟩) v.size v.size] 88)
      obtain ⟨x0, x1, xl⟩ := id hT2.cx.all2
      have HS2 := Lib.hid (And.intro hN1 (And.intro hN2 hT2))
      obtain ⟨B1, hB1⟩ : ∃ B, B = w1.heap.size := ⟨_, rfl⟩
      obtain ⟨B2, hB2⟩ : ∃ B, B = w2.heap.size := ⟨_, rfl⟩
      clear hb2 hN1 hN2 hT2
      have hal := Bx.new (w2.alloc (.cells #[.slice (some ⟨g2, 0, none⟩) v.size v.size, .slice (some ⟨M2, 0, none⟩) v.size v.size] 88)) 9 #[.string f, .string b]
      rw [World.size_alloc] at hal
      have HA := Lib.hid (HAW.out _ _ (hal.cell 0 (.string f) rfl) (hal.cell 1 (.string b) rfl))
      obtain ⟨r1, hr1⟩ : ∃ r, r = (bf && bb) := ⟨_, rfl⟩
      rw [← hr1] at HA hR
      have Hr1 := Lib.hid hr1
      clear hal hr1
      go_wp2_with fail
      refine HA.out.mono ?_
      rintro e w3 ⟨rfl, hb3⟩
      have hT3 := (HS2.out.2.2.alloc (.cells #[.string f, .string b] 9)).later hb3
      have hN1 := (HS2.out.1.alloc (.cells #[.string f, .string b] 9)).later hb3
      have hN2 := (HS2.out.2.1.alloc (.cells #[.string f, .string b] 9)).later hb3
      rw [← hB1] at hN1 ⊢
      rw [← hB2] at hN2 ⊢
      have HS3 := Lib.hid (And.intro hN1 (And.intro hN2 hT3))
      clear HS1 HS2 HA x0 x1 xl hb3 hB1 hB2 hN1 hN2
      cases r1 with
      | false =>
        simp only [Bool.false_and, if_true] at hR
        subst hR
        clear HTR
        go_wp2
        go_ret2
        exact ⟨rfl, HS3.out.2.2.below⟩
      | true =>
        have Hbf := Lib.hid (show IsW f ∧ IsW b by
          have h := Hr1.out
          cases bf <;> cases bb <;> first | exact ⟨HF_.out.1 rfl, HB_.out.1 rfl⟩ | (exact absurd h (by decide)))
        simp only [Bool.true_and] at hR
        obtain ⟨c0, c1, c2, c3, c4, c5, cl⟩ := id hT3.ck
        have HV := Lib.hid (HVC.out w3 hT3.below)
        obtain ⟨ok, hok⟩ : ∃ r, r = okM c := ⟨_, rfl⟩
        rw [← hok] at HV hR
        have Hok := Lib.hid hok
        clear hok hT3
        go_wp2_with fail
        refine HV.out.mono ?_
        rintro e w4 ⟨rfl, hb4⟩
        have hT4 := HS3.out.2.2.later hb4
        have HS4 := Lib.hid (And.intro (HS3.out.1.later hb4) (And.intro (HS3.out.2.1.later hb4) hT4))
        clear HS3 HV c0 c1 c2 c3 c4 c5 cl hb4
        cases ok with
        | false =>
          simp only [if_true] at hR
          subst hR
          clear HTR
          go_wp2
          go_ret2
          exact ⟨rfl, HS4.out.2.2.below⟩
        | true =>
          simp only [Bool.true_eq_false, if_false] at hR
          obtain ⟨n0, n1, nl⟩ := id HS4.out.1.box.all2
          have HM1 := Lib.hid (HS4.out.1.mat hwu)
          obtain ⟨m1, hm1⟩ : ∃ r, r = matB u.data.toList := ⟨_, rfl⟩
          obtain ⟨m2, hm2⟩ : ∃ r, r = matB v.data.toList := ⟨_, rfl⟩
          rw [← hm1] at HM1 hR
          rw [← hm2] at hR
          have Hm2 := Lib.hid hm2
          clear hm1 hm2 hT4
          go_wp2_with fail
          refine HM1.out.mono ?_
          rintro e w5 ⟨rfl, hb5⟩
          have HS5 := Lib.hid (And.intro (HS4.out.2.1.later hb5) (HS4.out.2.2.later hb5))
          clear HS4 HM1 n0 n1 nl hb5
          cases m1 with
          | false =>
            simp only [Bool.false_and, if_true] at hR
            subst hR
            clear HTR
            go_wp2
            go_ret2
            exact ⟨rfl, HS5.out.2.below⟩
          | true =>
            simp only [Bool.true_and] at hR
            obtain ⟨n0, n1, nl⟩ := id HS5.out.1.box.all2
            have hM2 := HS5.out.1.mat hwv
            rw [← Hm2.out] at hM2
            have HM2 := Lib.hid hM2
            clear hM2
            go_wp2_with fail
            refine HM2.out.mono ?_
            rintro e w6 ⟨rfl, hb6⟩
            have hT6 := HS5.out.2.later hb6
            have HS6 := Lib.hid hT6
            clear HS5 HM2 n0 n1 nl hb6
            cases m2 with
            | false =>
              simp only [if_true] at hR
              subst hR
              clear HTR
              go_wp2
              go_ret2
              exact ⟨rfl, HS6.out.below⟩
            | true =>
              simp only [Bool.true_eq_false, if_false] at hR
              obtain ⟨x0, x1, xl⟩ := id hT6.cx.all2
              have hzu : (f ++ u ++ b).size = f.size + u.size + b.size := by simp [ByteArray.size_append]
              have hzv : (f ++ v ++ b).size = f.size + v.size + b.size := by simp [ByteArray.size_append]
              obtain ⟨cu, hcu⟩ : ∃ s, s = f ++ u ++ b := ⟨_, rfl⟩
              obtain ⟨cv, hcv⟩ : ∃ s, s = f ++ v ++ b := ⟨_, rfl⟩
              have HAU := Lib.hid (fun W => impl_around f b u W (by omega))
              have HAV := Lib.hid (fun W => impl_around f b v W (by omega))
              rw [← hcu] at HAU hzu hR
              rw [← hcv] at HAV hzv hR
              rw [← hzu, ← hzv] at hR
              have Hcu := Lib.hid hcu
              have Hcv := Lib.hid hcv
              have Hzu := Lib.hid hzu
              have Hzv := Lib.hid hzv
              clear hcu hcv hzu hzv hT6
              go_wp2_with fail
              refine (HAU.out _).mono ?_
              rintro e w7 ⟨rfl, hb7⟩
              have hT7 := HS6.out.later hb7
              have HS7 := Lib.hid hT7
              clear HS6 x0 x1 xl hb7
              by_cases h60 : 60 < cu.size
              · simp only [h60, if_true] at hR
                subst hR
                clear HTR hT7
                go_wp2
                go_ret2
                exact ⟨rfl, HS7.out.below⟩
              · simp only [h60, if_false] at hR
                obtain ⟨x0, x1, xl⟩ := id hT7.cx.all2
                clear hT7
                go_wp2_with fail
                refine (HAV.out _).mono ?_
                rintro e w8 ⟨rfl, hb8⟩
                have hT8 := HS7.out.later hb8
                have HS8 := Lib.hid hT8
                clear HS7 x0 x1 xl hb8
                by_cases h61 : 60 < cv.size
                · simp only [h61, if_true] at hR
                  subst hR
                  clear HTR hT8
                  go_wp2
                  go_ret2
                  exact ⟨rfl, HS8.out.below⟩
                · simp only [h61, if_false] at hR
                  have Hgu := Lib.hid (show GivenM c cu from ⟨by rw [Hcu.out]; exact isW_cat3 Hbf.out.1 hwu Hbf.out.2 (by have := Hzu.out; omega), Hok.out.symm⟩)
                  have Hgv := Lib.hid (show GivenM c cv from ⟨by rw [Hcv.out]; exact isW_cat3 Hbf.out.1 hwv Hbf.out.2 (by have := Hzv.out; omega), Hok.out.symm⟩)
                  obtain ⟨ru, hru⟩ : ∃ r, r = takesM c cu.data.toList := ⟨_, rfl⟩
                  obtain ⟨rv, hrv⟩ : ∃ r, r = takesM c cv.data.toList := ⟨_, rfl⟩
                  have HTU := Lib.hid (fun W hW => HTT.out cu W hW Hgu.out)
                  have HTV := Lib.hid (fun W hW => HTT.out cv W hW Hgv.out)
                  rw [← hru] at HTU hR
                  rw [← hrv] at HTV hR
                  subst hR
                  clear HTR HVC HTT HAW hru hrv hT8 HT Hru Hrv
                  obtain ⟨s1, rfl⟩ : ∃ s, s = u := ⟨_, rfl⟩
                  obtain ⟨s2, rfl⟩ : ∃ s, s = v := ⟨_, rfl⟩
                  go_upto_region 9 with fail
                  refine wp_region_free (by kernel_rfl) [
                      .val [] (fun _ => .agg #[.int .i64 t0, .int .i64 t1, va, vc, vr, vi]),
                      .val [] (fun _ => .agg #[.string f, .string b]),
                      .val [] (fun _ => .string s1),
                      .val [] (fun _ => .string cu),
                      .val [] (fun _ => .bool ru),
                      .val [] (fun _ => .agg #[.int .i64 t0, .int .i64 t1, va, vc, vr, vi]),
                      .val [] (fun _ => .agg #[.string f, .string b]),
                      .val [] (fun _ => .string s2),
                      .val [] (fun _ => .string cv),
                      .val [] (fun _ => .bool rv),
                      .val [] (fun _ => .bool (ru != rv)),
                      .val [] (fun _ => .bool (ru != rv)),
                      .val [] (fun _ => .int .i64 0)] ?hp ?hfw ?deps ?oks ?steps ?tail
                  case hp => kernel_rfl
                  case hfw => kernel_rfl
                  case deps => kernel_rfl
                  case oks =>
                    intro F hF
                    simp only [List.mem_cons, List.not_mem_nil, or_false] at hF
                    rcases hF with rfl | rfl | rfl | rfl | rfl | rfl | rfl | rfl | rfl | rfl | rfl | rfl | rfl
                    all_goals trivial
                  case steps =>
                    refine Steps.cons ?_ ?_
                    · refine FreeStep.val [] _ rfl rfl fun u β W hW hn fr hfr K hK => ?_
                      simp only [frameL, putL, Act.put, List.setIfInBounds_toArray, List.set_cons_zero, List.set_cons_succ, Nat.zero_add, Nat.reduceAdd] at hfr
                      subst hfr
                      obtain ⟨c0, c1, c2, c3, c4, c5, cl⟩ := id (HS8.out.ck.later hW)
                      have HK := Lib.hid hK
                      clear hK hn
                      go_simp
                      exact HK.out
                    refine Steps.cons ?_ ?_
                    · refine FreeStep.val [] _ rfl rfl fun u β W hW hn fr hfr K hK => ?_
                      simp only [frameL, putL, Act.put, List.setIfInBounds_toArray, List.set_cons_zero, List.set_cons_succ, Nat.zero_add, Nat.reduceAdd] at hfr
                      subst hfr
                      obtain ⟨x0, x1, xl⟩ := id (HS8.out.cx.later hW).all2
                      have HK := Lib.hid hK
                      clear hK hn
                      go_simp
                      exact HK.out
                    refine Steps.cons ?_ ?_
                    · refine FreeStep.val [] _ rfl rfl fun u β W hW hn fr hfr K hK => ?_
                      simp only [frameL, putL, Act.put, List.setIfInBounds_toArray, List.set_cons_zero, List.set_cons_succ, Nat.zero_add, Nat.reduceAdd] at hfr
                      subst hfr
                      have HK := Lib.hid hK
                      clear hK hn
                      go_simp
                      exact HK.out
                    refine Steps.cons ?_ ?_
                    · refine FreeStep.calm [] _ rfl rfl fun u β W hW hn fr hfr K hK => ?_
                      simp only [frameL, putL, Act.put, List.setIfInBounds_toArray, List.set_cons_zero, List.set_cons_succ, Nat.zero_add, Nat.reduceAdd] at hfr
                      subst hfr
                      have e1 : u 1 = .agg #[.string f, .string b] := Have.get (k := 1) hn rfl
                      have e2 : u 2 = .string s1 := Have.get (k := 2) hn rfl
                      simp only [e1, e2] at hK
                      have HK := Lib.hid hK
                      clear hK hn
                      go_simp
                      refine (HAU.out _).mono ?_
                      rintro e w9 ⟨rfl, hb9⟩
                      exact HK.out _ hb9
                    refine Steps.cons ?_ ?_
                    · refine FreeStep.calm [] _ rfl rfl fun u β W hW hn fr hfr K hK => ?_
                      simp only [frameL, putL, Act.put, List.setIfInBounds_toArray, List.set_cons_zero, List.set_cons_succ, Nat.zero_add, Nat.reduceAdd] at hfr
                      subst hfr
                      have e0 : u 0 = .agg #[.int .i64 t0, .int .i64 t1, va, vc, vr, vi] := Have.get (k := 0) hn rfl
                      have e3 : u 3 = .string cu := Have.get (k := 3) hn rfl
                      simp only [e0, e3] at hK
                      have HQ := Lib.hid (HTU.out W (HS8.out.below.trans (hW.mono HS8.out.below.size)))
                      have HK := Lib.hid hK
                      clear hK hn
                      go_simp
                      refine HQ.out.mono ?_
                      rintro e w9 ⟨rfl, hb9⟩
                      exact HK.out _ hb9
                    refine Steps.cons ?_ ?_
                    · refine FreeStep.val [] _ rfl rfl fun u β W hW hn fr hfr K hK => ?_
                      simp only [frameL, putL, Act.put, List.setIfInBounds_toArray, List.set_cons_zero, List.set_cons_succ, Nat.zero_add, Nat.reduceAdd] at hfr
                      subst hfr
                      obtain ⟨c0, c1, c2, c3, c4, c5, cl⟩ := id (HS8.out.ck.later hW)
                      have HK := Lib.hid hK
                      clear hK hn
                      go_simp
                      exact HK.out
                    refine Steps.cons ?_ ?_
                    · refine FreeStep.val [] _ rfl rfl fun u β W hW hn fr hfr K hK => ?_
                      simp only [frameL, putL, Act.put, List.setIfInBounds_toArray, List.set_cons_zero, List.set_cons_succ, Nat.zero_add, Nat.reduceAdd] at hfr
                      subst hfr
                      obtain ⟨x0, x1, xl⟩ := id (HS8.out.cx.later hW).all2
                      have HK := Lib.hid hK
                      clear hK hn
                      go_simp
                      exact HK.out
                    refine Steps.cons ?_ ?_
                    · refine FreeStep.val [] _ rfl rfl fun u β W hW hn fr hfr K hK => ?_
                      simp only [frameL, putL, Act.put, List.setIfInBounds_toArray, List.set_cons_zero, List.set_cons_succ, Nat.zero_add, Nat.reduceAdd] at hfr
                      subst hfr
                      have HK := Lib.hid hK
                      clear hK hn
                      go_simp
                      exact HK.out
                    refine Steps.cons ?_ ?_
                    · refine FreeStep.calm [] _ rfl rfl fun u β W hW hn fr hfr K hK => ?_
                      simp only [frameL, putL, Act.put, List.setIfInBounds_toArray, List.set_cons_zero, List.set_cons_succ, Nat.zero_add, Nat.reduceAdd] at hfr
                      subst hfr
                      have e6 : u 6 = .agg #[.string f, .string b] := Have.get (k := 6) hn rfl
                      have e7 : u 7 = .string s2 := Have.get (k := 7) hn rfl
                      simp only [e6, e7] at hK
                      have HK := Lib.hid hK
                      clear hK hn
                      go_simp
                      refine (HAV.out _).mono ?_
                      rintro e w9 ⟨rfl, hb9⟩
                      exact HK.out _ hb9
                    refine Steps.cons ?_ ?_
                    · refine FreeStep.calm [] _ rfl rfl fun u β W hW hn fr hfr K hK => ?_
                      simp only [frameL, putL, Act.put, List.setIfInBounds_toArray, List.set_cons_zero, List.set_cons_succ, Nat.zero_add, Nat.reduceAdd] at hfr
                      subst hfr
                      have e5 : u 5 = .agg #[.int .i64 t0, .int .i64 t1, va, vc, vr, vi] := Have.get (k := 5) hn rfl
                      have e8 : u 8 = .string cv := Have.get (k := 8) hn rfl
                      simp only [e5, e8] at hK
                      have HQ := Lib.hid (HTV.out W (HS8.out.below.trans (hW.mono HS8.out.below.size)))
                      have HK := Lib.hid hK
                      clear hK hn
                      go_simp
                      refine HQ.out.mono ?_
                      rintro e w9 ⟨rfl, hb9⟩
                      exact HK.out _ hb9
                    refine Steps.cons ?_ ?_
                    · refine FreeStep.val [] _ rfl rfl fun u β W hW hn fr hfr K hK => ?_
                      simp only [frameL, putL, Act.put, List.setIfInBounds_toArray, List.set_cons_zero, List.set_cons_succ, Nat.zero_add, Nat.reduceAdd] at hfr
                      subst hfr
                      have e4 : u 4 = .bool ru := Have.get (k := 4) hn rfl
                      have e9 : u 9 = .bool rv := Have.get (k := 9) hn rfl
                      simp only [e4, e9] at hK
                      have HK := Lib.hid hK
                      clear hK hn
                      go_simp
                      exact HK.out
                    refine Steps.cons ?_ ?_
                    · refine FreeStep.val [] _ rfl rfl fun u β W hW hn fr hfr K hK => ?_
                      simp only [frameL, putL, Act.put, List.setIfInBounds_toArray, List.set_cons_zero, List.set_cons_succ, Nat.zero_add, Nat.reduceAdd] at hfr
                      subst hfr
                      have e10 : u 10 = .bool (ru != rv) := Have.get (k := 10) hn rfl
                      simp only [e10] at hK
                      have HK := Lib.hid hK
                      clear hK hn
                      go_simp
                      exact HK.out
                    refine Steps.cons ?_ ?_
                    · refine FreeStep.val [] _ rfl rfl fun u β W hW hn fr hfr K hK => ?_
                      simp only [frameL, putL, Act.put, List.setIfInBounds_toArray, List.set_cons_zero, List.set_cons_succ, Nat.zero_add, Nat.reduceAdd] at hfr
                      subst hfr
                      have HK := Lib.hid hK
                      clear hK hn
                      go_simp
                      exact HK.out
                    exact Steps.nil
                  case tail =>
                    intro u_ β W hW hn hdis hbnd
                    have z0 : u_ 0 = .agg #[.int .i64 t0, .int .i64 t1, va, vc, vr, vi] := Have.get (k := 0) hn rfl
                    have z1 : u_ 1 = .agg #[.string f, .string b] := Have.get (k := 1) hn rfl
                    have z2 : u_ 2 = .string s1 := Have.get (k := 2) hn rfl
                    have z3 : u_ 3 = .string cu := Have.get (k := 3) hn rfl
                    have z4 : u_ 4 = .bool ru := Have.get (k := 4) hn rfl
                    have z5 : u_ 5 = .agg #[.int .i64 t0, .int .i64 t1, va, vc, vr, vi] := Have.get (k := 5) hn rfl
                    have z6 : u_ 6 = .agg #[.string f, .string b] := Have.get (k := 6) hn rfl
                    have z7 : u_ 7 = .string s2 := Have.get (k := 7) hn rfl
                    have z8 : u_ 8 = .string cv := Have.get (k := 8) hn rfl
                    have z9 : u_ 9 = .bool rv := Have.get (k := 9) hn rfl
                    have z10 : u_ 10 = .bool (ru != rv) := Have.get (k := 10) hn rfl
                    have z11 : u_ 11 = .bool (ru != rv) := Have.get (k := 11) hn rfl
                    have z12 : u_ 12 = .int .i64 0 := Have.get (k := 12) hn rfl
                    rw [← frameL_eq (by kernel_rfl)]
                    clear hn hdis hbnd
                    simp only [frameL, putL, Act.put, List.setIfInBounds_toArray, List.set_cons_zero, List.set_cons_succ, Nat.zero_add, Nat.reduceAdd, z0, z1, z2, z3, z4, z5, z6, z7, z8, z9, z10, z11, z12]
                    have hBf := HS8.out.below.trans (hW.mono HS8.out.below.size)
                    clear HS8 HTU HTV HAU HAV
                    go_wp2
                    go_ret2
                    exact ⟨rfl, hBf⟩
end
end Go.Proofs.Ytcboalnpbmnfcaa
