import Derived.Test.YtnclhgaikglbgaaMFnPutAndCut7
import Derived.Test.YtnclhgaikglbgaaMFnPutAndCut4
import Derived.Test.YtnclhgaikglbgaaMFnPutAndCut9
import Derived.BigQuiet
import Derived.Deep.QuietTactic
/- PutAt, of the model and of the program. -/
namespace Go.Proofs.Ytnclhgaikglbgaa
open Go.RowKit

/-- Whether a word is matched. -/
def mB (l : List UInt8) : Bool := decide (cR l (prts (ksOf l)) l.length + cC l (prts (ksOf l)) l.length = 0)
theorem mB_size (s : ByteArray) : mB s.data.toList = decide (cR s.data.toList (prts (ksOf s.data.toList)) s.size + cC s.data.toList (prts (ksOf s.data.toList)) s.size = 0) := by
  have hl : s.data.toList.length = s.size := by simp
  rw [mB, hl]

theorem matched_read' {s : ByteArray} {w w1 : World} {M : Nat} (h : IsW s) (hsy : w1.ownsRow w.heap.size 58 1 (.slice (some ⟨w.heap.size + 1 + 1, 0, none⟩) s.size s.size) s.size (symsV (symL s.data.toList)))
    (hps : w1.ownsRow w.heap.size 2 1 (.slice (some ⟨M, 0, none⟩) s.size s.size) s.size (numsV (prts (ksOf s.data.toList)))) {w2 : World} (hb : Below w1.heap.size w1 w2) :
    Calls Try.prog 38 #[.agg #[.slice (some ⟨w.heap.size + 1 + 1, 0, none⟩) s.size s.size, .slice (some ⟨M, 0, none⟩) s.size s.size]] w2 (TupPost (.bool (mB s.data.toList)) w2) := by
  rw [mB_size]; exact matched_read h hsy hps hb

def putW (s u : ByteArray) (k : Nat) : ByteArray := s.extract 0 k ++ u ++ s.extract k s.size

theorem slice_to (s : ByteArray) (k : Nat) (h : k ≤ s.size) : ∀ W : World, (Instr.slice 9 (.string s) none (some (.int .i64 (k : Int))) none).run Try.prog W = .ok (.string (s.extract 0 k)) W := fun W => by
  have := run_slice_string_h (P := Try.prog) (w := W) (t := 9) (s := s) Try.underlying9 .i64 (k : Int) (by omega) (by omega)
  rwa [Int.toNat_natCast] at this
theorem slice_from (s : ByteArray) (k : Nat) (h : k ≤ s.size) : ∀ W : World, (Instr.slice 9 (.string s) (some (.int .i64 (k : Int))) none none).run Try.prog W = .ok (.string (s.extract k s.size)) W := fun W => by
  have := run_slice_string_l (P := Try.prog) (w := W) (t := 9) (s := s) Try.underlying9 .i64 (k : Int) (by omega) (by omega)
  rwa [Int.toNat_natCast] at this

def putV (c : Int) : Value := .tuple #[.string ⟨#[]⟩, .int .i64 c]

/-! The model's other ways. -/
theorem impl_PutAt_inv (s u : ByteArray) (i : Int) (w : World) (l1 : s.size ≤ 1048576) (l2 : u.size ≤ 1048576) (h : ¬ (IsW s ∧ IsW u)) :
    Calls Try.prog 25 #[.string s, .int .i64 i, .string u] w (TupPost (putV 1) w) := by
  by_cases hu : IsW u
  · have hs : ¬ IsW s := fun hs => h ⟨hs, hu⟩
    have Hu := Lib.hid hu
    have Hs := Lib.hid hs
    clear hu hs h
    go_enter Try.func25, Try.ntmps25
    go_wp2_with fail
    refine (impl_read_yes _ _ Hu.out.1 Hu.out.2).mono ?_
    rintro e w1 ⟨M, rfl, hsy, hps, hb1⟩
    go_wp2_with fail
    refine (impl_valid_no _ _ l1 Hs.out).mono ?_
    rintro e w2 ⟨rfl, hb2⟩
    go_wp2
    go_ret2
    exact ⟨rfl, (hb1.alloc hb1.size _).trans (hb2.mono (by have := hb1.size; simp; omega))⟩
  · have Hu := Lib.hid hu
    clear hu h
    go_enter Try.func25, Try.ntmps25
    go_wp2_with fail
    refine (impl_read_no _ _ l2 Hu.out).mono ?_
    rintro e w1 ⟨rfl, hb1⟩
    go_wp2
    go_ret2
    exact ⟨rfl, hb1.alloc hb1.size _⟩
theorem impl_PutAt_range (s u : ByteArray) (i : Int) (w : World) (hs : IsW s) (hu : IsW u) (hi : i < 0 ∨ (s.size : Int) < i) :
    Calls Try.prog 25 #[.string s, .int .i64 i, .string u] w (TupPost (putV 2) w) := by
  have h1 := hs.1
  have Hu := Lib.hid hu
  have Hs := Lib.hid hs
  clear hu hs
  by_cases h0 : i < 0
  · clear hi
    go_enter Try.func25, Try.ntmps25
    go_wp2_with fail
    refine (impl_read_yes _ _ Hu.out.1 Hu.out.2).mono ?_
    rintro e w1 ⟨M, rfl, hsy, hps, hb1⟩
    go_wp2_with fail
    refine (impl_valid_yes _ _ Hs.out).mono ?_
    rintro e w2 ⟨rfl, hb2⟩
    go_wp2
    go_ret2
    exact ⟨rfl, (hb1.alloc hb1.size _).trans (hb2.mono (by have := hb1.size; simp; omega))⟩
  · have h0' : 0 ≤ i := by omega
    have h2 : (s.size : Int) < i := by omega
    clear hi h0
    go_enter Try.func25, Try.ntmps25
    go_wp2_with fail
    refine (impl_read_yes _ _ Hu.out.1 Hu.out.2).mono ?_
    rintro e w1 ⟨M, rfl, hsy, hps, hb1⟩
    go_wp2_with fail
    refine (impl_valid_yes _ _ Hs.out).mono ?_
    rintro e w2 ⟨rfl, hb2⟩
    go_wp2
    go_ret2
    exact ⟨rfl, (hb1.alloc hb1.size _).trans (hb2.mono (by have := hb1.size; simp; omega))⟩

theorem cell_nested {w1 w2 : World} {v0 v1 : Value} (hb : Below (w1.alloc (.cells #[v0, v1] 50)).heap.size (w1.alloc (.cells #[v0, v1] 50)) w2) :
    w2.cell? ⟨w1.heap.size, 0, none⟩ = some v0 ∧ w2.cell? ⟨w1.heap.size, 1, none⟩ = some v1 := by
  exact ⟨(hb.cell (p := ⟨w1.heap.size, 0, none⟩) (by simp)).trans (by simp [go_sem]), (hb.cell (p := ⟨w1.heap.size, 1, none⟩) (by simp)).trans (by simp [go_sem])⟩

theorem impl_PutAt_state (s u : ByteArray) (i : Int) (w : World) (hs : IsW s) (hu : IsW u) (h0 : 0 ≤ i) (h2 : i ≤ (s.size : Int)) (hm : mB u.data.toList = false) :
    Calls Try.prog 25 #[.string s, .int .i64 i, .string u] w (TupPost (putV 4) w) := by
  have h1 := hs.1
  have hmt := fun (w w1 : World) (M : Nat) hsy hps (w2 : World) hb => matched_read' (w := w) (w1 := w1) (M := M) hu hsy hps (w2 := w2) hb
  rw [hm] at hmt
  have Hmt := Lib.hid hmt
  have Hu := Lib.hid hu
  have Hs := Lib.hid hs
  clear hu hs hm hmt
  go_enter Try.func25, Try.ntmps25
  go_wp2_with fail
  refine (impl_read_yes _ _ Hu.out.1 Hu.out.2).mono ?_
  rintro e w1 ⟨M, rfl, hsy, hps, hb1⟩
  go_wp2_with fail
  refine (impl_valid_yes _ _ Hs.out).mono ?_
  rintro e w2 ⟨rfl, hb2⟩
  obtain ⟨hc0, hc1⟩ := cell_nested hb2
  have hb12 : Below w1.heap.size w1 w2 := ((Below.refl _ _).alloc (Nat.le_refl _) _).trans (hb2.mono (by simp))
  go_wp2_with fail
  refine (Hmt.out _ _ _ hsy hps _ hb12).mono ?_
  rintro e w3 ⟨rfl, hb3⟩
  go_wp2
  go_ret2
  exact ⟨rfl, (hb1.trans (hb12.mono hb1.size)).trans (hb3.mono (by have := hb1.size; have := hb12.size; omega))⟩
theorem impl_PutAt_yes (s u : ByteArray) (k : Nat) (w : World) (hs : IsW s) (hu : IsW u) (hk : k ≤ s.size) (hm : mB u.data.toList = true) :
    Calls Try.prog 25 #[.string s, .int .i64 (k : Int), .string u] w (TupPost (toldV (putW s u k)) w) := by
  have h1 := hs.1
  have h2 := hu.1
  have hz1 : (s.extract 0 k).size ≤ 60 := by rw [ByteArray.size_extract]; omega
  have hz2 : (s.extract k s.size).size ≤ 60 := by rw [ByteArray.size_extract]; omega
  have hz3 : (s.extract 0 k ++ u).size ≤ 120 := by rw [ByteArray.size_append]; omega
  have hz4 : (putW s u k).size ≤ 1048576 := by rw [putW, ByteArray.size_append]; omega
  obtain ⟨r, code, hr⟩ := toldV_form (putW s u k)
  have ht := fun w => impl_told (putW s u k) w hz4
  have hmt := fun (w w1 : World) (M : Nat) hsy hps (w2 : World) hb => matched_read' (w := w) (w1 := w1) (M := M) hu hsy hps (w2 := w2) hb
  rw [hm] at hmt
  rw [hr] at ht ⊢
  rw [putW] at ht
  have Ht := Lib.hid ht
  have Hmt := Lib.hid hmt
  have Hu := Lib.hid hu
  have Hs := Lib.hid hs
  have hsl1 := slice_to s k hk
  have hsl2 := slice_from s k hk
  clear hu hs ht hr hm hmt hz4
  go_enter Try.func25, Try.ntmps25
  go_wp2_with fail
  refine (impl_read_yes _ _ Hu.out.1 Hu.out.2).mono ?_
  rintro e w1 ⟨M, rfl, hsy, hps, hb1⟩
  go_wp2_with fail
  refine (impl_valid_yes _ _ Hs.out).mono ?_
  rintro e w2 ⟨rfl, hb2⟩
  obtain ⟨hc0, hc1⟩ := cell_nested hb2
  have hb12 : Below w1.heap.size w1 w2 := ((Below.refl _ _).alloc (Nat.le_refl _) _).trans (hb2.mono (by simp))
  go_wp2_with fail
  refine (Hmt.out _ _ _ hsy hps _ hb12).mono ?_
  rintro e w3 ⟨rfl, hb3⟩
  have hbf := (hb1.trans (hb12.mono hb1.size)).trans (hb3.mono (by have := hb1.size; have := hb12.size; omega))
  go_wp2_with fail
  go_quiet ((go_at_call 47; exact Calls.quiet_of_same ((Ht.out _).mono fun e w' h => ⟨h.1, h.2.symm⟩)))
  go_wp2
  go_ret2
  exact ⟨rfl, below_drewN hbf _⟩

end Go.Proofs.Ytnclhgaikglbgaa
/- What closes a call: l01Closed of the model and returnOfCall of the program; BodyOf and CutMatched, of both. -/
namespace Go.Proofs.Ytnclhgaikglbgaa
open Go.RowKit

/-! Plain mathematics: a call is pending, or its partner lies behind it. -/
theorem prts_at_call (ks : List Nat) : ∀ i : Nat, ks[i]? = some 0 → (prts ks)[i]? = some (-2) ∨ ∃ q : Nat, i < q ∧ q < ks.length ∧ (prts ks)[i]? = some (q : Int) := by
  refine snoc_ind (p := fun ks => ∀ i : Nat, ks[i]? = some 0 → (prts ks)[i]? = some (-2) ∨ ∃ q : Nat, i < q ∧ q < ks.length ∧ (prts ks)[i]? = some (q : Int)) ?_ (fun l k ih => ?_) ks
  · intro i h; simp at h
  · intro i hi
    have hlen := prts_len l
    have hl1 : (l ++ [k]).length = l.length + 1 := by simp
    by_cases hil : i < l.length
    · rw [List.getElem?_append_left hil] at hi
      have ih := ih i hi
      have lift : ∀ y, ((prts l ++ [y])[i]? = some (-2) ∨ ∃ q : Nat, i < q ∧ q < (l ++ [k]).length ∧ (prts l ++ [y])[i]? = some (q : Int)) := by
        intro y
        rw [List.getElem?_append_left (by omega)]
        rcases ih with h | ⟨q, h1, h2, h3⟩
        · exact .inl h
        · exact .inr ⟨q, h1, by omega, h3⟩
      by_cases h0 : k = 0
      · subst h0; rw [(prts_call l).1]; exact lift _
      · by_cases h1 : k = 1
        · subst h1
          cases hl : (opns l).getLast? with
          | none => rw [(prts_ret_none l (List.getLast?_eq_none_iff.1 hl)).1]; exact lift _
          | some b =>
            rw [(prts_ret_some l b hl).1, List.getElem?_append_left (by simp; omega)]
            by_cases hne : b = i
            · subst hne
              exact .inr ⟨l.length, hil, by omega, List.getElem?_set_self (by omega)⟩
            · rw [List.getElem?_set_ne hne]
              rcases ih with h | ⟨q, h1, h2, h3⟩
              · exact .inl h
              · exact .inr ⟨q, h1, by omega, h3⟩
        · rw [(prts_inner l k h0 h1).1]; exact lift _
    · have hie : i = l.length := by
        have := (List.getElem?_eq_some_iff.1 hi).1
        omega
      subst hie
      simp at hi
      subst hi
      rw [(prts_call l).1, List.getElem?_append_right (by omega), hlen]
      simp

def cloV (q c : Int) : Value := .tuple #[.int .i64 q, .int .i64 c]

set_option maxHeartbeats 800000 in
theorem impl_closed_no (s : ByteArray) (i : Int) (w : World) (hs : s.size ≤ 1048576) (h : ¬ IsW s) :
    Calls Try.prog 39 #[.string s, .int .i64 i] w (TupPost (cloV 0 1) w) := by
  have H := Lib.hid h
  clear h
  go_enter Try.func39, Try.ntmps39
  go_wp2_with fail
  refine (impl_read_no _ _ hs H.out).mono ?_
  rintro e w1 ⟨rfl, hb⟩
  go_wp2
  go_ret2
  exact ⟨rfl, hb.alloc hb.size _⟩

set_option maxHeartbeats 800000 in
theorem impl_closed_neg (s : ByteArray) (i : Int) (w : World) (h : IsW s) (hi : i < 0) :
    Calls Try.prog 39 #[.string s, .int .i64 i] w (TupPost (cloV 0 2) w) := by
  have h60 := h.1
  have H := Lib.hid h
  clear h
  go_enter Try.func39, Try.ntmps39
  go_wp2_with fail
  refine (impl_read_yes _ _ H.out.1 H.out.2).mono ?_
  rintro e w1 ⟨M, rfl, hsy, hps, hb⟩
  go_wp2
  go_ret2
  exact ⟨rfl, hb.alloc hb.size _⟩

set_option maxHeartbeats 800000 in
theorem impl_closed_range (s : ByteArray) (i : Int) (w : World) (h : IsW s) (h0 : 0 ≤ i) (hi : (s.size : Int) ≤ i) :
    Calls Try.prog 39 #[.string s, .int .i64 i] w (TupPost (cloV 0 2) w) := by
  have h60 := h.1
  have H := Lib.hid h
  clear h
  go_enter Try.func39, Try.ntmps39
  go_wp2_with fail
  refine (impl_read_yes _ _ H.out.1 H.out.2).mono ?_
  rintro e w1 ⟨M, rfl, hsy, hps, hb⟩
  go_wp2
  go_ret2
  exact ⟨rfl, hb.alloc hb.size _⟩

set_option maxHeartbeats 800000 in
theorem impl_closed_inner (s : ByteArray)  (w : World) (h : IsW s) (k : Nat) (p : Int) (hk : k < s.size) (hp : (prts (ksOf s.data.toList))[k]? = some p) (hc : callB (s[k].toNat : Int) = false) :
    Calls Try.prog 39 #[.string s, .int .i64 (k : Int)] w (TupPost (cloV 0 4) w) := by
  have hsyx : (symL s.data.toList)[k]? = some (symNo (s[k].toNat : Int)) := by
    rw [symL, List.getElem?_map, List.getElem?_eq_getElem (by simpa using hk)]; rfl
  have hall := h.2 s[k] (by
    have : s.data.toList[k]? = some s[k] := by rw [List.getElem?_eq_getElem (by simpa using hk)]; rfl
    exact List.mem_of_getElem? this)
  rw [(call_kind hall).1] at hc
  have hx : symNo (s[k].toNat : Int) ≤ 5 := symNo_le _
  generalize symNo (s[k].toNat : Int) = x at hsyx hc hall hx
  have Hy := Lib.hid hsyx
  clear hsyx
  have h60 := h.1
  have H := Lib.hid h
  clear h
  have Hp := Lib.hid hp
  clear hp
  go_enter Try.func39, Try.ntmps39
  go_wp2_with fail
  refine (impl_read_yes _ _ H.out.1 H.out.2).mono ?_
  rintro e w1 ⟨M, rfl, hsy, hps, hb⟩
  have hb2 := hb.alloc hb.size (.cells #[.slice (some ⟨w.heap.size + 1 + 1, 0, none⟩) s.size s.size, .slice (some ⟨M, 0, none⟩) s.size s.size] 50)
  have hsy2 := hsy.alloc (.cells #[.slice (some ⟨w.heap.size + 1 + 1, 0, none⟩) s.size s.size, .slice (some ⟨M, 0, none⟩) s.size s.size] 50)
  have hps2 := hps.alloc (.cells #[.slice (some ⟨w.heap.size + 1 + 1, 0, none⟩) s.size s.size, .slice (some ⟨M, 0, none⟩) s.size s.size] 50)
  have hc0 := syms_cell hsy2 k _ Hy.out
  have hc1 := nums_cell hps2 k p Hp.out
  clear hsy hps hsy2 hps2 hb
  go_wp2_with fail
  refine (impl_isCall _ _).mono ?_
  rintro e w' ⟨rfl, rfl⟩
  rw [hc]
  go_wp2
  go_ret2
  exact ⟨rfl, hb2⟩

set_option maxHeartbeats 800000 in
theorem impl_closed_pend (s : ByteArray)  (w : World) (h : IsW s) (k : Nat) (p : Int) (hk : k < s.size) (hp : (prts (ksOf s.data.toList))[k]? = some p) (hc : callB (s[k].toNat : Int) = true) (h2 : p = -2) :
    Calls Try.prog 39 #[.string s, .int .i64 (k : Int)] w (TupPost (cloV 0 4) w) := by
  subst h2
  have hsyx : (symL s.data.toList)[k]? = some (symNo (s[k].toNat : Int)) := by
    rw [symL, List.getElem?_map, List.getElem?_eq_getElem (by simpa using hk)]; rfl
  have hall := h.2 s[k] (by
    have : s.data.toList[k]? = some s[k] := by rw [List.getElem?_eq_getElem (by simpa using hk)]; rfl
    exact List.mem_of_getElem? this)
  rw [(call_kind hall).1] at hc
  have hx : symNo (s[k].toNat : Int) ≤ 5 := symNo_le _
  generalize symNo (s[k].toNat : Int) = x at hsyx hc hall hx
  have Hy := Lib.hid hsyx
  clear hsyx
  have h60 := h.1
  have H := Lib.hid h
  clear h
  have Hp := Lib.hid hp
  clear hp
  go_enter Try.func39, Try.ntmps39
  go_wp2_with fail
  refine (impl_read_yes _ _ H.out.1 H.out.2).mono ?_
  rintro e w1 ⟨M, rfl, hsy, hps, hb⟩
  have hb2 := hb.alloc hb.size (.cells #[.slice (some ⟨w.heap.size + 1 + 1, 0, none⟩) s.size s.size, .slice (some ⟨M, 0, none⟩) s.size s.size] 50)
  have hsy2 := hsy.alloc (.cells #[.slice (some ⟨w.heap.size + 1 + 1, 0, none⟩) s.size s.size, .slice (some ⟨M, 0, none⟩) s.size s.size] 50)
  have hps2 := hps.alloc (.cells #[.slice (some ⟨w.heap.size + 1 + 1, 0, none⟩) s.size s.size, .slice (some ⟨M, 0, none⟩) s.size s.size] 50)
  have hc0 := syms_cell hsy2 k _ Hy.out
  have hc1 := nums_cell hps2 k _ Hp.out
  clear hsy hps hsy2 hps2 hb
  go_wp2_with fail
  refine (impl_isCall _ _).mono ?_
  rintro e w' ⟨rfl, rfl⟩
  rw [hc]
  go_wp2
  go_ret2
  exact ⟨rfl, hb2⟩

set_option maxHeartbeats 800000 in
theorem impl_closed_yes (s : ByteArray)  (w : World) (h : IsW s) (k : Nat) (p : Int) (hk : k < s.size) (hp : (prts (ksOf s.data.toList))[k]? = some p) (hc : callB (s[k].toNat : Int) = true) (h2 : 0 ≤ p) :
    Calls Try.prog 39 #[.string s, .int .i64 (k : Int)] w (TupPost (cloV p 0) w) := by
  have hp2 : (p == -2) = false := by simp; omega
  have hsyx : (symL s.data.toList)[k]? = some (symNo (s[k].toNat : Int)) := by
    rw [symL, List.getElem?_map, List.getElem?_eq_getElem (by simpa using hk)]; rfl
  have hall := h.2 s[k] (by
    have : s.data.toList[k]? = some s[k] := by rw [List.getElem?_eq_getElem (by simpa using hk)]; rfl
    exact List.mem_of_getElem? this)
  rw [(call_kind hall).1] at hc
  have hx : symNo (s[k].toNat : Int) ≤ 5 := symNo_le _
  generalize symNo (s[k].toNat : Int) = x at hsyx hc hall hx
  have Hy := Lib.hid hsyx
  clear hsyx
  have h60 := h.1
  have H := Lib.hid h
  clear h
  have Hp := Lib.hid hp
  clear hp
  go_enter Try.func39, Try.ntmps39
  go_wp2_with fail
  refine (impl_read_yes _ _ H.out.1 H.out.2).mono ?_
  rintro e w1 ⟨M, rfl, hsy, hps, hb⟩
  have hb2 := hb.alloc hb.size (.cells #[.slice (some ⟨w.heap.size + 1 + 1, 0, none⟩) s.size s.size, .slice (some ⟨M, 0, none⟩) s.size s.size] 50)
  have hsy2 := hsy.alloc (.cells #[.slice (some ⟨w.heap.size + 1 + 1, 0, none⟩) s.size s.size, .slice (some ⟨M, 0, none⟩) s.size s.size] 50)
  have hps2 := hps.alloc (.cells #[.slice (some ⟨w.heap.size + 1 + 1, 0, none⟩) s.size s.size, .slice (some ⟨M, 0, none⟩) s.size s.size] 50)
  have hc0 := syms_cell hsy2 k _ Hy.out
  have hc1 := nums_cell hps2 k p Hp.out
  clear hsy hps hsy2 hps2 hb
  go_wp2_with fail
  refine (impl_isCall _ _).mono ?_
  rintro e w' ⟨rfl, rfl⟩
  rw [hc]
  go_wp2
  go_ret2
  exact ⟨rfl, hb2⟩

end Go.Proofs.Ytnclhgaikglbgaa
/- BodyOf and CutMatched, of the model and of the program. -/
namespace Go.Proofs.Ytnclhgaikglbgaa
open Go.RowKit

def bodV (t : ByteArray) (c : Int) : Value := .tuple #[.string t, .int .i64 c]

theorem slice_mid (s : ByteArray) (k m : Nat) (h : k < m) (h2 : m ≤ s.size) : ∀ W : World, (Instr.slice 9 (.string s) (some (.int .i64 ((k : Int) + 1))) (some (.int .i64 (m : Int))) none).run Try.prog W = .ok (.string (s.extract (k + 1) m)) W := fun W => by
  have := run_slice_string (P := Try.prog) W 9 s .i64 .i64 ((k : Int) + 1) (m : Int) Try.underlying9 (by omega) (by omega) (by omega)
  rwa [show ((k : Int) + 1).toNat = k + 1 from by omega, Int.toNat_natCast] at this
theorem slice_head (s : ByteArray) (k : Nat) (h : k ≤ s.size) : ∀ W : World, (Instr.slice 9 (.string s) none (some (.int .i64 (k : Int))) none).run Try.prog W = .ok (.string (s.extract 0 k)) W := fun W => by
  have := run_slice_string_h (P := Try.prog) (w := W) (t := 9) (s := s) Try.underlying9 .i64 (k : Int) (by omega) (by omega)
  rwa [Int.toNat_natCast] at this
theorem slice_tail (s : ByteArray) (m : Nat) (h : m < s.size) : ∀ W : World, (Instr.slice 9 (.string s) (some (.int .i64 ((m : Int) + 1))) none none).run Try.prog W = .ok (.string (s.extract (m + 1) s.size)) W := fun W => by
  have := run_slice_string_l (P := Try.prog) (w := W) (t := 9) (s := s) Try.underlying9 .i64 ((m : Int) + 1) (by omega) (by omega)
  rwa [show ((m : Int) + 1).toNat = m + 1 from by omega] at this

theorem impl_BodyOf_bad (s : ByteArray) (i q c : Int) (w : World) (hc : c = 1 ∨ c = 2 ∨ c = 4)
    (h : ∀ w, Calls Try.prog 39 #[.string s, .int .i64 i] w (TupPost (cloV q c) w)) :
    Calls Try.prog 18 #[.string s, .int .i64 i] w (TupPost (bodV ⟨#[]⟩ c) w) := by
  simp only [cloV, bodV] at h ⊢
  have H := Lib.hid h
  clear h
  rcases hc with rfl | rfl | rfl
  all_goals
    go_enter Try.func18, Try.ntmps18
    go_wp2_with fail
    refine (H.out _).mono ?_
    rintro e w1 ⟨rfl, hb⟩
    go_wp2
    go_ret2
    exact ⟨rfl, hb⟩

theorem impl_BodyOf_yes (s : ByteArray) (k m : Nat) (w : World) (hkm : k < m) (hm : m < s.size) (h60 : s.size ≤ 60)
    (h : ∀ w, Calls Try.prog 39 #[.string s, .int .i64 (k : Int)] w (TupPost (cloV (m : Int) 0) w)) :
    Calls Try.prog 18 #[.string s, .int .i64 (k : Int)] w (TupPost (bodV (s.extract (k + 1) m) 0) w) := by
  simp only [cloV, bodV] at h ⊢
  have H := Lib.hid h
  clear h
  have hsl := slice_mid s k m hkm (by omega)
  have hz : (s.extract (k + 1) m).size ≤ 60 := by rw [ByteArray.size_extract]; omega
  go_enter Try.func18, Try.ntmps18
  go_wp2_with fail
  refine (H.out _).mono ?_
  rintro e w1 ⟨rfl, hb⟩
  go_wp2
  go_ret2
  exact ⟨rfl, hb⟩

theorem impl_CutMatched_bad (s : ByteArray) (i q c : Int) (w : World) (hc : c = 1 ∨ c = 2 ∨ c = 4)
    (h : ∀ w, Calls Try.prog 39 #[.string s, .int .i64 i] w (TupPost (cloV q c) w)) :
    Calls Try.prog 26 #[.string s, .int .i64 i] w (TupPost (bodV ⟨#[]⟩ c) w) := by
  simp only [cloV, bodV] at h ⊢
  have H := Lib.hid h
  clear h
  rcases hc with rfl | rfl | rfl
  all_goals
    go_enter Try.func26, Try.ntmps26
    go_wp2_with fail
    refine (H.out _).mono ?_
    rintro e w1 ⟨rfl, hb⟩
    go_wp2
    go_ret2
    exact ⟨rfl, hb⟩

theorem impl_CutMatched_yes (s : ByteArray) (k m : Nat) (w : World) (hkm : k < m) (hm : m < s.size) (h60 : s.size ≤ 60)
    (h : ∀ w, Calls Try.prog 39 #[.string s, .int .i64 (k : Int)] w (TupPost (cloV (m : Int) 0) w)) :
    Calls Try.prog 26 #[.string s, .int .i64 (k : Int)] w (TupPost (bodV (s.extract 0 k ++ s.extract (m + 1) s.size) 0) w) := by
  simp only [cloV, bodV] at h ⊢
  have H := Lib.hid h
  clear h
  have hsl := slice_head s k (by omega)
  have hsl2 := slice_tail s m hm
  have hz : (s.extract 0 k).size ≤ 60 := by rw [ByteArray.size_extract]; omega
  have hz2 : (s.extract (m + 1) s.size).size ≤ 60 := by rw [ByteArray.size_extract]; omega
  go_enter Try.func26, Try.ntmps26
  go_wp2_with fail
  refine (H.out _).mono ?_
  rintro e w1 ⟨rfl, hb⟩
  go_wp2
  go_quiet (fail)
  go_wp2
  go_ret2
  exact ⟨rfl, below_drewN hb _⟩

end Go.Proofs.Ytnclhgaikglbgaa
