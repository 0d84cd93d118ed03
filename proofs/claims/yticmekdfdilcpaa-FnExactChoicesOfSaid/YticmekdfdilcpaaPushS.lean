/- l03Pushes of the model. -/
import Derived.Test.YticmekdfdilcpaaRisP
import Derived.Test.YticmekdfdilcpaaBox
import Derived.BigQuiet
import Derived.Deep.QuietTactic
namespace Go.Proofs.Yticmekdfdilcpaa
open Go.RowKit
set_option linter.unusedVariables false

theorem upP2_zero (xs : List (Int × Int)) : upP2 xs 0 = true := rfl
set_option maxHeartbeats 6400000 in
set_option maxRecDepth 100000 in
theorem spec_pushesR {base : Nat} {v : Value} {xs : List (Int × Int)} {bs : List Nat} (m st : Int) (w : World) (hm : 0 ≤ m ∧ m ≤ 100000) (hst : 0 ≤ st ∧ st ≤ 100000) (hn : Bd1 xs) (ha : PushE base w v xs bs) :
    Calls Try.prog 88 #[v, .int .i64 m, .int .i64 st] w (SeenPost (.bool (risP xs m st)) w) := by
  obtain ⟨A, ca, rfl⟩ := RowE.slice ha
  unfold Bd1 at hn
  obtain ⟨n, hn'⟩ : ∃ n, n = xs.length := ⟨_, rfl⟩
  have Hn := Lib.hid hn'
  rw [← hn'] at ha hn ⊢
  clear hn'
  have HA := Lib.hid ha
  have ewm : IntKind.i64.wrap (m - 1) = m - 1 := IntWalk.i64_in _ (by omega)
  have ews : IntKind.i64.wrap (st - 1) = st - 1 := IntWalk.i64_in _ (by omega)
  clear ha hm hst
  go_enter Try.func88, Try.ntmps88
  go_wp2
  go_loopw [7] (fun i wr => ∃ k : Nat, k ≤ n ∧ i = .int .i64 k ∧ Below w.heap.size w wr ∧ Hid ((xs.take k).all (pB m st) = true ∧ upP xs k = true)) (fun i _ => n - (intOf i).toNat)
  case atStart => exact ⟨0, Nat.zero_le _, rfl, Below.refl _ _, rfl, rfl⟩
  case round =>
    obtain ⟨k, hk, rfl, hB, hU⟩ := hrel
    have HB := Lib.hid hB
    have hsz := hB.size
    clear hB
    by_cases hlt : k < n
    · have hkx : k < xs.length := by rw [← Hn.out]; exact hlt
      obtain ⟨x, hx⟩ : ∃ x, xs[k]? = some x := ⟨_, List.getElem?_eq_getElem hkx⟩
      obtain ⟨g, rfl, hg, _⟩ := RowE.head HA.out hkx
      have hc := PushE.cell' ((push_ok _).later HA.out HB.out) hx
      obtain ⟨c0, c1⟩ := hc
      have hal := (Below.refl wr.heap.size wr).alloc (Nat.le_refl _) (.cells #[.int .i64 x.1, .int .i64 x.2] 97)
      have hbx := Bx.new wr 97 #[.int .i64 x.1, .int .i64 x.2]
      have hBA := HB.out.trans (hal.mono hsz)
      have HX := Lib.hid (And.intro hbx (And.intro hBA hal))
      obtain ⟨W1, hW1⟩ : ∃ W, W = wr.alloc (.cells #[.int .i64 x.1, .int .i64 x.2] 97) := ⟨_, rfl⟩
      rw [← hW1] at HX
      have H1 := Lib.hid hW1
      have hpx : pB m st x = (inB x.1 m && inB x.2 st) := rfl
      have QA := Lib.hid (fun W => spec_in (x := x.1) (n := m) W)
      have QB := Lib.hid (fun W => spec_in (x := x.2) (n := st) W)
      obtain ⟨x1, x2⟩ := x
      dsimp only at *
      clear hal hbx hBA hW1
      go_wp2_with fail
      go_upto_region 5 with fail
      rw [← H1.out]
      clear c0 c1
      obtain ⟨b0, b1, bl⟩ := id (Bx.all2 HX.out.1)
      cases kA : inB x1 m with
      | false =>
        have hno := Lib.hid (risP_in (n := m) (m := st) hx (by rw [hpx, kA]; rfl))
        rw [kA] at QA
        clear hx hkx hU hpx
        go_wp2_with fail
        refine (QA.out _).mono ?_
        rintro e w' ⟨rfl, rfl⟩
        go_wp2
        go_ret
        exact ⟨by rw [hno.out]; rfl, HX.out.2.1⟩
      | true =>
        rw [kA] at QA
        cases kB : inB x2 st with
        | false =>
          have hno := Lib.hid (risP_in (n := m) (m := st) hx (by rw [hpx, kA, kB]; rfl))
          rw [kB] at QB
          clear hx hkx hU hpx
          go_wp2_with fail
          refine (QA.out _).mono ?_
          rintro e w' ⟨rfl, rfl⟩
          go_wp2_with fail
          refine (QB.out _).mono ?_
          rintro e w' ⟨rfl, rfl⟩
          go_wp2
          go_ret
          exact ⟨by rw [hno.out]; rfl, HX.out.2.1⟩
        | true =>
          rw [kB] at QB
          have hall := Lib.hid (all_snoc (f := pB m st) hx (by rw [hpx, kA, kB]; rfl) hU.out.1)
          cases k with
          | zero =>
            have hnx : Hid ((xs.take (0 + 1)).all (pB m st) = true ∧ upP xs (0 + 1) = true) := ⟨hall.out, by rw [upP_succ, hU.out.2]; rfl⟩
            clear hx hkx hU hpx hall
            go_wp2_with fail
            refine (QA.out _).mono ?_
            rintro e w' ⟨rfl, rfl⟩
            go_wp2_with fail
            refine (QB.out _).mono ?_
            rintro e w' ⟨rfl, rfl⟩
            go_wp2
            go_big_quiet (fail)
            have hBf := HX.out.2.1
            clear b0 b1 bl
            go_wp2
            go_roundw
            case rel => exact ⟨0 + 1, by omega, by go_num, by first | exact hBf | exact below_drewN hBf _, hnx⟩
            case measure => simp [intOf]; omega
          | succ j =>
            obtain ⟨y, hy⟩ : ∃ y, xs[j]? = some y := ⟨_, List.getElem?_eq_getElem (by omega)⟩
            have hup := upP2_at hy hx
            obtain ⟨y1, y2⟩ := y
            have hcy := PushE.cell' ((push_ok _).later HA.out HX.out.2.1) hy
            obtain ⟨d0, d1⟩ := hcy
            dsimp only at *
            have ewj : IntKind.i64.wrap (((j + 1 : Nat) : Int) - 1) = (j : Int) := by rw [IntWalk.i64_in _ (by omega)]; omega
            have hjn : j < n := by omega
            have hsuc := upP_succ xs (j + 1)
            rw [hU.out.2, hup] at hsuc
            have HS := Lib.hid hsuc
            have HNO := Lib.hid (fun h : ltP (y1, y2) (x1, x2) = false => risP_up (n := m) (m := st) hkx (hup.trans h))
            clear hx hkx hU hpx hy hup hsuc
            go_wp2_with fail
            refine (QA.out _).mono ?_
            rintro e w' ⟨rfl, rfl⟩
            go_wp2_with fail
            refine (QB.out _).mono ?_
            rintro e w' ⟨rfl, rfl⟩
            go_wp2
            rcases Int.lt_trichotomy y1 x1 with hlt1 | heq1 | hgt1
            · have hlp : ltP (y1, y2) (x1, x2) = true := by simp [ltP, hlt1]
              have n1 : ¬ x1 < y1 := by omega
              have n2 : ¬ y1 = x1 := by omega
              have m1 : decide (x1 < y1) = false := decide_eq_false n1
              have m2 : decide (y1 = x1) = false := decide_eq_false n2
              have m3 : (y1 == x1) = false := by simp [n2]
              have hnx : Hid ((xs.take (j + 1 + 1)).all (pB m st) = true ∧ upP xs (j + 1 + 1) = true) := ⟨hall.out, by rw [HS.out, hlp]; rfl⟩
              have hBf := HX.out.2.1
              clear hlp hall HS HNO
              go_big_quiet (fail)
              go_wp2
              go_roundw
              case rel => exact ⟨j + 1 + 1, by omega, by go_num, by first | exact hBf | exact below_drewN hBf _, hnx⟩
              case measure => simp [intOf]; omega
            · subst heq1
              rcases Int.lt_or_le y2 x2 with hlt2 | hge2
              · have hlp : ltP (y1, y2) (y1, x2) = true := by simp [ltP, hlt2]
                have n1 : ¬ y1 < y1 := by omega
                have n3 : ¬ x2 ≤ y2 := by omega
                have m1 : decide (y1 < y1) = false := decide_eq_false n1
                have m2 : decide (x2 ≤ y2) = false := decide_eq_false n3
                have hnx : Hid ((xs.take (j + 1 + 1)).all (pB m st) = true ∧ upP xs (j + 1 + 1) = true) := ⟨hall.out, by rw [HS.out, hlp]; rfl⟩
                have hBf := HX.out.2.1
                clear hlp hall HS HNO
                go_big_quiet (fail)
                go_wp2
                go_roundw
                case rel => exact ⟨j + 1 + 1, by omega, by go_num, by first | exact hBf | exact below_drewN hBf _, hnx⟩
                case measure => simp [intOf]; omega
              · have hlp : ltP (y1, y2) (y1, x2) = false := by (have q : ¬ y2 < x2 := by omega); simp [ltP, q]
                have n1 : ¬ y1 < y1 := by omega
                have n3 : ¬ y2 < x2 := by omega
                have m1 : decide (y1 < y1) = false := decide_eq_false n1
                have m2 : decide (x2 ≤ y2) = true := decide_eq_true hge2
                have hno := Lib.hid (HNO.out hlp)
                have hBf := HX.out.2.1
                clear hlp hall HS HNO
                go_big_quiet (fail)
                go_wp2
                go_ret
                exact ⟨by rw [hno.out]; rfl, by first | exact hBf | exact below_drewN hBf _⟩
            · have hlp : ltP (y1, y2) (x1, x2) = false := by (have q : ¬ y1 < x1 := by omega); (have q2 : ¬ y1 = x1 := by omega); simp [ltP, q, q2]
              have m1 : decide (x1 < y1) = true := decide_eq_true hgt1
              have hno := Lib.hid (HNO.out hlp)
              have hBf := HX.out.2.1
              clear hlp hall HS HNO
              go_big_quiet (fail)
              go_wp2
              go_ret
              exact ⟨by rw [hno.out]; rfl, by first | exact hBf | exact below_drewN hBf _⟩
    · have e : k = n := by omega
      subst e
      have hall : Hid (risP xs m st = true) := by
        have h1 := hU.out
        rw [Hn.out, List.take_length] at h1
        show _ = _
        rw [risP, h1.1, h1.2]; rfl
      have hBf := HB.out
      clear hU HB
      go_wp2
      go_ret
      exact ⟨by rw [hall.out]; rfl, hBf⟩
end Go.Proofs.Yticmekdfdilcpaa
