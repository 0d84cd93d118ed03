/- CoreOf, of the model and of the program. -/
import Derived.Test.YtdbfpmkhhgjkbacPending
namespace Go.Proofs.Ytdbfpmkhhgjkbac
open Go.RowKit Go.Shelf

attribute [local go_sem] Oper.semAt_some

theorem byte_sym {b : UInt8} (h : 0 ≤ symNo (b.toNat : Int)) : byteOf (symNo (b.toNat : Int)) = b := by
  have f (k : UInt8) (e : (b.toNat : Int) = k.toNat) : b = k := UInt8.toNat_inj.1 (by omega)
  by_cases h0 : (b.toNat : Int) = 40
  · rw [f 40 h0]; rfl
  by_cases h1 : (b.toNat : Int) = 91
  · rw [f 91 h1]; rfl
  by_cases h2 : (b.toNat : Int) = 41
  · rw [f 41 h2]; rfl
  by_cases h3 : (b.toNat : Int) = 93
  · rw [f 93 h3]; rfl
  by_cases h4 : (b.toNat : Int) = 97
  · rw [f 97 h4]; rfl
  by_cases h5 : (b.toNat : Int) = 98
  · rw [f 98 h5]; rfl
  unfold symNo at h
  rw [if_neg h0, if_neg h1, if_neg h2, if_neg h3, if_neg h4, if_neg h5] at h
  omega

/-- The bytes of what is pending among the first k places. -/
def coreL (l : List UInt8) (ps : List Int) (k : Nat) : List UInt8 := (pend (symL l) ps k).map fun x => byteOf x.1.2
theorem coreL_yes {l : List UInt8} {ps : List Int} {k : Nat} {b : UInt8} (hp : ps[k]? = some (-2)) (hb : l[k]? = some b) (hs : 0 ≤ symNo (b.toNat : Int)) : coreL l ps (k + 1) = coreL l ps k ++ [b] := by
  have hsy : (symL l)[k]?.getD 0 = symNo (b.toNat : Int) := by simp [symL, hb]
  rw [coreL, pend_yes hp (by rw [hsy]; exact ⟨hs, symNo_le _⟩), List.map_append]
  simp [coreL, hsy, byte_sym hs]
theorem coreL_no {l : List UInt8} {ps : List Int} {k : Nat} (hp : ps[k]? ≠ some (-2)) : coreL l ps (k + 1) = coreL l ps k := by rw [coreL, pend_no hp]; rfl
theorem coreL_len (l : List UInt8) (ps : List Int) (k : Nat) : (coreL l ps k).length ≤ k := by rw [coreL, List.length_map]; exact pend_len _ _ _

theorem cut_one (s : ByteArray) (k : Nat) (h : k < s.size) : (s.extract k (k + 1)).data.toList = [s[k]] := by
  have h1 : (s.extract k (k + 1)).data.toList = (s.data.toList.drop k).take 1 := by simp [List.extract_eq_take_drop, ByteArray.data_extract]
  rw [h1, List.drop_eq_getElem_cons (by simpa using h)]
  rfl

set_option maxHeartbeats 1600000 in
set_option maxRecDepth 100000 in
theorem spec_core (s : ByteArray) (w : World) (hw : IsW s) :
    Calls Try.prog 39 #[.string s] w (TupPost (.string ⟨(coreL s.data.toList (prts (ksOf s.data.toList)) s.size).toArray⟩) w) := by
  have hp := fun w => spec_partners s w hw
  obtain ⟨h60, hall⟩ := hw
  obtain ⟨l, hl⟩ : ∃ l, l = s.data.toList := ⟨_, rfl⟩
  have hlen : l.length = s.size := by rw [hl]; simp
  rw [← hl] at hp hall ⊢
  obtain ⟨ps, hps⟩ : ∃ ps, ps = prts (ksOf l) := ⟨_, rfl⟩
  have hpl : ps.length = s.size := by rw [hps, prts_len, ksOf_len]; exact hlen
  rw [← hps] at hp ⊢
  have Hp := Lib.hid hp
  have Hl := Lib.hid hl
  have Hpl := Lib.hid hpl
  have Hall := Lib.hid hall
  clear hp hl hlen hps hpl hall
  go_enter Try.func39, Try.ntmps39
  go_wp2_with (go_at_call 49; refine (Hp.out _).mono ?_; rintro e w1 ⟨A, c, rfl, hr, hb⟩)
  go_loop [4, 5] (fun v i => ∃ (k : Nat) (t : ByteArray), k ≤ s.size ∧ i = .int .i64 k ∧ v = .string t ∧ t.size ≤ k ∧ Hid (t.data.toList = coreL l ps k)) (fun _ i => s.size - (intOf i).toNat)
  case atStart => exact ⟨0, ⟨#[]⟩, Nat.zero_le _, rfl, rfl, Nat.le_refl _, rfl⟩
  case round =>
    obtain ⟨k, t, hk, rfl, rfl, htk, ht⟩ := hrel
    by_cases hlt : k < s.size
    · obtain ⟨g, rfl⟩ : ∃ g, A = some ⟨g, 0, none⟩ := by
        rcases hr.2 with ⟨_, h1⟩ | ⟨g, cap, cur, hv, _⟩
        · omega
        · simp only [Value.slice.injEq] at hv
          exact ⟨g, hv.1⟩
      obtain ⟨p, hp⟩ : ∃ p, ps[k]? = some p := ⟨_, List.getElem?_eq_getElem (by rw [Hpl.out]; exact hlt)⟩
      have hcell := nums_cell hr k p hp
      have Hp' := Lib.hid hp
      have hlb : Hid (l[k]? = some s[k]) := by
        show _ = _
        rw [Hl.out, List.getElem?_eq_getElem (by simpa using hlt)]; rfl
      have ht60 : t.size ≤ 60 := by omega
      clear hp
      by_cases h2 : p = -2
      · subst h2
        have hsy := Hall.out _ (List.mem_of_getElem? hlb.out)
        have fin : (t ++ s.extract k (k + 1)).size ≤ k + 1 ∧ (t ++ s.extract k (k + 1)).data.toList = coreL l ps (k + 1) := by
          have e1 : (t ++ s.extract k (k + 1)).data.toList = coreL l ps (k + 1) := by
            rw [coreL_yes Hp'.out hlb.out hsy, ByteArray.data_append, Array.toList_append, ht.out, cut_one s k hlt]
          refine ⟨?_, e1⟩
          have e2 : (t ++ s.extract k (k + 1)).size = (t ++ s.extract k (k + 1)).data.toList.length := by rw [Array.length_toList]; rfl
          rw [e2, e1]
          exact coreL_len _ _ _
        have Fin := Lib.hid fin
        clear fin
        have hsl : ∀ W : World, (Instr.slice 9 (.string s) (some (.int .i64 (k : Int))) (some (.int .i64 ((k : Int) + 1))) none).run Try.prog W = .ok (.string (s.extract k (k + 1))) W := fun W => by
          have := run_slice_string (P := Try.prog) W 9 s .i64 .i64 (k : Int) ((k : Int) + 1) Try.underlying9 (by omega) (by omega) (by omega)
          rwa [show ((k : Int) + 1).toNat = k + 1 from by omega, Int.toNat_natCast] at this
        have hsz : (s.extract k (k + 1)).size ≤ 60 := by rw [ByteArray.size_extract]; omega
        go_wp2
        go_round
        case rel => exact ⟨k + 1, _, by omega, by go_num, rfl, Fin.out.1, Fin.out.2⟩
        case measure => simp [intOf]; omega
      · have hp2 : (p == -2) = false := by simpa using h2
        have hcn : Hid (coreL l ps (k + 1) = coreL l ps k) := coreL_no (by rw [Hp'.out]; simpa using h2)
        clear h2
        go_wp2
        go_round
        case rel => exact ⟨k + 1, t, by omega, by go_num, rfl, by omega, by show _ = _; rw [hcn.out]; exact ht.out⟩
        case measure => simp [intOf]; omega
    · have e : k = s.size := by omega
      subst e
      have e2 : t = ⟨(coreL l ps s.size).toArray⟩ := by rw [← ht.out]
      subst e2
      clear ht htk
      go_wp2
      go_ret
      exact ⟨rfl, hb⟩
end Go.Proofs.Ytdbfpmkhhgjkbac
