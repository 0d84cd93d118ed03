/- l01Parents of the model. -/
import Derived.Test.YtdehehdcjfaefaaTree
import Derived.Test.YtdehehdcjfaefaaSlices
namespace Go.Proofs.Ytdehehdcjfaefaa
open Go.RowKit

theorem kind_nocall {n : Int} (_h : 0 ≤ symNo n) (hc : callS (symNo n) = false) : kindS (symNo n) ≠ 0 := by
  simp only [callS, decide_eq_false_iff_not] at hc
  unfold kindS
  rw [if_neg hc]
  split <;> decide

theorem parK_yes {ks : List Nat} {ps : List Int} {i j : Nat} {p : Int} (hk : ks[j]? = some 0) (hp : ps[j]? = some p) (h : p = -2 ∨ (i : Int) < p) : parK (over ks ps i) (j + 1) = (j : Int) := by
  rw [parK, if_pos]
  refine ⟨hk, ?_⟩
  rcases h with h | h
  · exact .inl (by rw [hp, h])
  · exact .inr ⟨p, hp, h⟩
theorem parK_no {ks : List Nat} {ps : List Int} {i j : Nat} {p : Int} (hp : ps[j]? = some p) (h : ks[j]? ≠ some 0 ∨ (p ≠ -2 ∧ p ≤ i)) : parK (over ks ps i) (j + 1) = parK (over ks ps i) j := by
  rw [parK, if_neg]
  rintro ⟨h1, h2⟩
  rcases h with h | ⟨h3, h4⟩
  · exact h h1
  · rcases h2 with h2 | ⟨q, h2, h5⟩
    · rw [hp] at h2; exact h3 (Option.some.inj h2)
    · rw [hp] at h2; have := Option.some.inj h2; omega

set_option maxHeartbeats 3200000 in
set_option maxRecDepth 100000 in
theorem spec_parents (s : ByteArray) (w : World) (hw : IsW s) :
    Calls Try.prog 39 #[.string s] w (RowPost 2 s.size (numsV (parL (ksOf s.data.toList) s.size)) w) := by
  have hp := fun w => spec_partners s w hw
  obtain ⟨h60, hall⟩ := hw
  obtain ⟨i0, hi, hz0, hz1, hz2⟩ := info_parts info_i64
  obtain ⟨ks, hks⟩ : ∃ ks, ks = ksOf s.data.toList := ⟨_, rfl⟩
  have hkl : ks.length = s.size := by rw [hks, ksOf_len]; simp
  rw [← hks] at hp ⊢
  obtain ⟨ps, hps⟩ : ∃ ps, ps = prts ks := ⟨_, rfl⟩
  have hpl : ps.length = s.size := by rw [hps, prts_len, hkl]
  have hpar : ∀ k, k < s.size → parK (over ks ps k) k = parI ks k := fun k hk => by rw [hps]; exact parK_over ks k (by omega)
  rw [← hps] at hp
  have Hp := Lib.hid hp
  have Hks := Lib.hid hks
  have Hkl := Lib.hid hkl
  have Hpl := Lib.hid hpl
  have Hpar := Lib.hid hpar
  have Hall := Lib.hid hall
  clear hks hkl hall hp hps hpl hpar
  go_enter Try.func39, Try.ntmps39
  go_wp2_with (go_at_call 64; refine (Hp.out _).mono ?_; rintro e w1 ⟨A, c, rfl, hr, hb⟩)
  go_loopw [4, 5] (fun y i wr => ∃ (k : Nat) (A' : Option Addr) (c' : Nat), k ≤ s.size ∧ i = .int .i64 k ∧ y = .slice A' k c' ∧
      wr.ownsRow w1.heap.size 2 1 (.slice A' k c') k (numsV (parL ks k)) ∧ Below w1.heap.size w1 wr) (fun _ i _ => s.size - (intOf i).toNat)
  case atStart =>
    refine ⟨0, _, _, Nat.zero_le _, rfl, rfl, ?_, (Below.refl _ _).alloc (Nat.le_refl _) _⟩
    have h := World.ownsRow_lit (base := w1.heap.size) (e := 2) (size := 1) w1 #[] 0 (by simp) (by unfold maxLen; omega) rfl
    simpa [numsV, parL] using h
  case round =>
    obtain ⟨k, A', c', hk, rfl, rfl, hR, hB⟩ := hrel
    have hs1 := hB.size
    by_cases hlt : k < s.size
    · obtain ⟨g, rfl⟩ : ∃ g, A = some ⟨g, 0, none⟩ := by
        rcases hr.2 with ⟨_, h1⟩ | ⟨g, cap, cur, hv, _⟩
        · omega
        · simp only [Value.slice.injEq] at hv
          exact ⟨g, hv.1⟩
      have hr2 := row_below hr hB
      go_wp2
      go_loop [6, 7] (fun v j => ∃ (m : Nat) (p : Int), m ≤ k ∧ j = .int .i64 m ∧ v = .int .i64 p ∧ Hid (p = parK (over ks ps k) m)) (fun _ j => k - (intOf j).toNat)
      case atStart => exact ⟨0, -1, Nat.zero_le _, rfl, rfl, rfl⟩
      case round =>
        obtain ⟨m, p, hm, rfl, rfl, hP⟩ := hrel
        by_cases hmk : m < k
        · have hms : m < s.size := by omega
          have hb : Hid (s.data.toList[m]? = some s[m]) := by
            show _ = _
            rw [List.getElem?_eq_getElem (by simpa using hms)]; rfl
          have hsy : 0 ≤ symNo (s[m].toNat : Int) := Hall.out _ (List.mem_of_getElem? hb.out)
          have hkk : ks[m]? = some (kindS (symNo (s[m].toNat : Int))) := by rw [Hks.out]; exact ksOf_at _ _ _ hb.out
          obtain ⟨q, hq⟩ : ∃ q, ps[m]? = some q := ⟨_, List.getElem?_eq_getElem (by rw [Hpl.out]; exact hms)⟩
          have hcell := nums_cell hr2 m q hq
          cases hc : callB (s[m].toNat : Int) with
          | false =>
            have hn : Hid (p = parK (over ks ps k) (m + 1)) := by
              show _ = _
              rw [parK_no hq (.inl (by rw [hkk]; exact fun e => kind_nocall hsy (by rw [← (call_kind hsy).1]; exact hc) (Option.some.inj e)))]
              exact hP.out
            clear hkk hq hb hsy
            go_wp2_with (go_at_call 59; refine (spec_call _ _).mono ?_; rintro e w' ⟨rfl, rfl⟩; rw [hc])
            go_round
            case rel => exact ⟨m + 1, p, by omega, by go_num, rfl, hn⟩
            case measure => simp [intOf]; omega
          | true =>
            rw [kind_call hc] at hkk
            by_cases h2 : q = -2
            · subst h2
              have hn : Hid ((m : Int) = parK (over ks ps k) (m + 1)) := by show _ = _; rw [parK_yes hkk hq (.inl rfl)]
              clear hkk hq hb hsy
              go_wp2_with (go_at_call 59; refine (spec_call _ _).mono ?_; rintro e w' ⟨rfl, rfl⟩; rw [hc])
              go_round
              case rel => exact ⟨m + 1, m, by omega, by go_num, rfl, hn⟩
              case measure => simp [intOf]; omega
            · have hq2 : (q == -2) = false := by simpa using h2
              by_cases h3 : (k : Int) < q
              · have hn : Hid ((m : Int) = parK (over ks ps k) (m + 1)) := by show _ = _; rw [parK_yes hkk hq (.inr h3)]
                clear hkk hq hb hsy h2
                go_wp2_with (go_at_call 59; refine (spec_call _ _).mono ?_; rintro e w' ⟨rfl, rfl⟩; rw [hc])
                go_round
                case rel => exact ⟨m + 1, m, by omega, by go_num, rfl, hn⟩
                case measure => simp [intOf]; omega
              · have h4 : q ≤ (k : Int) := by omega
                have hn : Hid (p = parK (over ks ps k) (m + 1)) := by show _ = _; rw [parK_no hq (.inr ⟨h2, h4⟩)]; exact hP.out
                clear hkk hq hb hsy h2 h3
                go_wp2_with (go_at_call 59; refine (spec_call _ _).mono ?_; rintro e w' ⟨rfl, rfl⟩; rw [hc])
                go_round
                case rel => exact ⟨m + 1, p, by omega, by go_num, rfl, hn⟩
                case measure => simp [intOf]; omega
        · have e : m = k := by omega
          subst e
          have e2 : p = parI ks m := by rw [hP.out]; exact Hpar.out m hlt
          have E2 := Lib.hid e2
          clear e2 hP hmk
          go_wp2_with (at_builtin; refine wpList_append_own _ rfl _ _ 22 rfl w1.heap.size 2 i0 (.int .i64 0) 1 8 Try.underlying22 hi hz0 hz1 hz2 rfl (by decide) _ _ _ rfl (hR.alloc _) ⟨wr.heap.size, 0, none⟩ 1 1 [.int .i64 p] rfl rfl (cell_one_new _ _ _) ?c2 ?c3 ?c4 ?c5 ?_)
          case c2 => simp [Value.oneCell']
          case c3 => unfold maxLen; omega
          case c4 => omega
          case c5 => omega
          intro v' w2 hown hg2 _
          have hR' : w2.ownsRow w1.heap.size 2 1 v' (m + 1) (numsV (parL ks (m + 1))) := by
            rw [parL_succ, ← E2.out]
            simpa [numsV] using hown
          have hB' : Below w1.heap.size w1 w2 := (hB.alloc hs1 _).grown hg2 (by simp; omega) (fun j e => (hR.lt j e).1)
          obtain ⟨g', c'', rfl⟩ := ownsRow_succ hR'
          clear hown hg2
          go_wp2
          go_roundw
          case rel => exact ⟨m + 1, _, _, by omega, by go_num, rfl, hR', hB'⟩
          case measure => simp [intOf]; omega
    · have e : k = s.size := by omega
      subst e
      go_wp2
      go_ret
      exact ⟨_, _, rfl, row_base hR hb.size, hb.trans (hB.mono hb.size)⟩

theorem spec_ParentsOf_yes (s : ByteArray) (w : World) (h : IsW s) :
    Calls Try.prog 17 #[.string s] w (NumsPost s.size (parL (ksOf s.data.toList) s.size) 0 w) := by
  have hp := fun w => spec_parents s w h
  have Hp := Lib.hid hp
  have H := Lib.hid h
  clear h hp
  go_enter Try.func17, Try.ntmps17
  go_wp2_with (first
    | (go_at_call 33; refine (spec_ok_yes _ _ H.out).mono ?_; rintro e w' ⟨rfl, rfl⟩)
    | (go_at_call 39; refine (Hp.out _).mono ?_; rintro e w1 ⟨A, c, rfl, hr, hb⟩))
  go_ret2
  exact ⟨A, c, rfl, hr, hb⟩
theorem spec_ParentsOf_no (s : ByteArray) (w : World) (hs : s.size ≤ 1048576) (h : ¬ IsW s) :
    Calls Try.prog 17 #[.string s] w (NumsPost 0 [] 1 w) := by
  have H := Lib.hid h
  clear h
  go_enter Try.func17, Try.ntmps17
  go_wp2_with (go_at_call 33; refine (spec_ok_no _ _ hs H.out).mono ?_; rintro e w' ⟨rfl, rfl⟩)
  go_ret2
  exact ⟨_, _, rfl, World.ownsRow_lit (base := w.heap.size) (e := 2) (size := 1) w #[] 0 (Nat.le_refl _) (by unfold maxLen; omega) rfl, (Below.refl _ _).alloc (Nat.le_refl _) _⟩

end Go.Proofs.Ytdehehdcjfaefaa
