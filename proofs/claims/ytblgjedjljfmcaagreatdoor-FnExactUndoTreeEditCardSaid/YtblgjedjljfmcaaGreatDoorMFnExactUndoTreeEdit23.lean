import Derived.Test.YtblgjedjljfmcaaGreatDoorMFnExactUndoTreeEdit1
import Derived.Laws.IdiomStrings
import Derived.BigQuiet
import Derived.Deep.QuietTactic
import Derived.Deep.RegionWith
import Derived.Test.YtblgjedjljfmcaaGreatDoorMFnExactUndoTreeEdit22
import Derived.Test.YtblgjedjljfmcaaGreatDoorMFnExactUndoTreeEdit7
import Derived.Test.YtblgjedjljfmcaaGreatDoorMFnExactUndoTreeEdit10
/- The law's own small functions on lists of texts: markText, eqStringS, markStringS, heldStringS. -/
namespace Go.Proofs.YtblgjedjljfmcaaGreatDoor
open Go.RowKit

def dgB (k : Nat) : UInt8 := UInt8.ofNat (48 + k % 10)
/-- The digits of a number. -/
def dg (k : Nat) : List UInt8 := if _h : k = 0 then [] else dg (k / 10) ++ [dgB k]
termination_by k
decreasing_by omega
theorem dg_zero : dg 0 = [] := by rw [dg]; simp
theorem dg_pos {k : Nat} (h : 0 < k) : dg k = dg (k / 10) ++ [dgB k] := by
  conv => lhs; rw [dg]
  rw [dif_neg (by omega)]
theorem dg_len (k : Nat) : (dg k).length ≤ k := by
  induction k using Nat.strongRecOn with
  | ind k ih =>
    by_cases h : 0 < k
    · rw [dg_pos h, List.length_append, List.length_singleton]
      have := ih (k / 10) (by omega)
      omega
    · obtain rfl : k = 0 := by omega
      rw [dg_zero]; exact Nat.le_refl _
def mtL (k : Nat) : List UInt8 := if k = 0 then [109, 48] else 109 :: dg k
def mtS (k : Nat) : ByteArray := ⟨(mtL k).toArray⟩

theorem dig_conv (w : World) (k : Nat) :
    (convert 110 9 (.slice (some ⟨w.heap.size, 0, none⟩) 1 1)).run Tryz.prog (w.alloc (.cells #[.int .u8 (48 + (k : Int) % 10)] 5)) = .ok (.string ⟨#[dgB k]⟩) (w.alloc (.cells #[.int .u8 (48 + (k : Int) % 10)] 5)) := by
  have e : (48 + (k : Int) % 10) = ((dgB k).toNat : Int) := by
    rw [dgB, UInt8.toNat_ofNat']
    omega
  have := run_convert_bytes_back (P := Tryz.prog) (w.alloc (.cells #[.int .u8 (48 + (k : Int) % 10)] 5)) 110 9 5 ⟨w.heap.size, 0, none⟩ 1 [dgB k] Tryz.underlying110 Tryz.underlying5 Tryz.underlying9 fun j hj => by
    obtain rfl : j = 0 := by simpa using hj
    rw [e]
    simp [go_sem, Addr.add]
  simpa using this

def strsV (xs : List ByteArray) : List Value := xs.map .string
theorem info_str : (Tryz.prog.info? 9).map (fun i => (i.zero, i.size, i.bytes)) = some (some (.string ⟨#[]⟩), 1, 16) := by kernel_rfl

/-- A slice of texts that reads as a list. -/
def Strs (w : World) (A : Option Addr) (n : Nat) (xs : List ByteArray) : Prop :=
  xs.length = n ∧ (0 < n → ∃ g, A = some ⟨g, 0, none⟩ ∧ g < w.heap.size ∧ ∀ (j : Nat) (x : ByteArray), xs[j]? = some x → w.cell? ⟨g, j, none⟩ = some (.string x))
theorem Strs.of_row {w : World} {base : Nat} {A : Option Addr} {n c : Nat} {xs : List ByteArray} (h : w.ownsRow base 9 1 (.slice A n c) n (strsV xs)) : Strs w A n xs := by
  refine ⟨by have := h.1; simpa [strsV] using this, fun hn => ?_⟩
  rcases h.2 with ⟨h0, h1⟩ | ⟨g, cap, cur, hv, _⟩
  · omega
  · simp only [Value.slice.injEq] at hv
    obtain ⟨rfl, _, rfl⟩ := hv
    refine ⟨g, rfl, (h.lt g rfl).2, fun j x hx => ?_⟩
    have hj : j < n := by
      have := (List.getElem?_eq_some_iff.1 hx).1
      have hl := h.1
      simp [strsV] at hl
      omega
    rw [h.cellAt j (by omega)]
    simp [strsV, hx]
theorem Strs.at_ {w : World} {A : Option Addr} {n : Nat} {xs : List ByteArray} (h : Strs w A n xs) (k : Nat) (hk : k < n) : ∃ g x, A = some ⟨g, 0, none⟩ ∧ xs[k]? = some x ∧ g < w.heap.size ∧ w.cell? ⟨g, k, none⟩ = some (.string x) := by
  obtain ⟨g, e, hg, hc⟩ := h.2 (by omega)
  have hl : k < xs.length := by have := h.1; omega
  exact ⟨g, xs[k], e, List.getElem?_eq_getElem hl, hg, hc k _ (List.getElem?_eq_getElem hl)⟩

/-- m1, m2, m3 and so on. -/
def rampS (n : Nat) : List ByteArray := (List.range n).map fun i : Nat => mtS (i + 1)
theorem rampS_len (n : Nat) : (rampS n).length = n := by simp [rampS]
theorem rampS_succ (n : Nat) : rampS (n + 1) = rampS n ++ [mtS (n + 1)] := by simp [rampS, List.range_succ]
theorem rampS_at (n k : Nat) (h : k < n) : (rampS n)[k]? = some (mtS (k + 1)) := by simp [rampS, h]

theorem grown_trans {x y z : World} {row : Option Nat} (h : x.grownBy y row) (k : y.grownBy z row) : x.grownBy z row :=
  ⟨k.os.trans h.os, k.tape.trans h.tape, k.output.trans h.output, Nat.le_trans h.size k.size, fun b hb hne => (k.block b (Nat.lt_of_lt_of_le hb h.size) hne).trans (h.block b hb hne)⟩
theorem grown_below {x y : World} (h : Below x.heap.size x y) (row : Option Nat) : x.grownBy y row := ⟨h.os, h.tape, h.output, h.size, fun b hb _ => h.block b hb⟩

structure MarkRelS (w : World) (base n : Nat) (A : Option Addr) (c : Nat) (xs : List ByteArray) (j : Nat) (wr : World) : Prop where
  row : wr.ownsRow base 9 1 (.slice A n c) n (strsV (rampS j ++ xs.drop j))
  grown : w.grownBy wr (Value.slice A n c).ownBlock
theorem MarkRelS.next {w wr w2 : World} {base n g c : Nat} {xs : List ByteArray} {j : Nat} (h : MarkRelS w base n (some ⟨g, 0, none⟩) c xs j wr) (hx : xs.length = n) (hj : j < n) (hb : Below wr.heap.size wr w2) :
    MarkRelS w base n (some ⟨g, 0, none⟩) c xs (j + 1) (w2.setCell ⟨g, j, none⟩ (.string (mtS (j + 1)))) := by
  have h1 := (row_below h.row hb).stored j (.string (mtS (j + 1)))
  refine ⟨?_, grown_trans (grown_trans h.grown (grown_below hb _)) h1.2⟩
  have e : (strsV (rampS j ++ xs.drop j)).set j (.string (mtS (j + 1))) = strsV (rampS (j + 1) ++ xs.drop (j + 1)) := by
    unfold strsV
    rw [← List.map_set, List.set_append_right _ _ (by rw [rampS_len]; exact Nat.le_refl _), rampS_len, Nat.sub_self, rampS_succ, List.append_assoc, List.singleton_append]
    rw [List.drop_eq_getElem_cons (by omega)]
    rfl
  rw [e] at h1
  exact h1.1

end Go.Proofs.YtblgjedjljfmcaaGreatDoor
/- The factors of a matched word, in plain mathematics, and of the model. -/
namespace Go.Proofs.YtblgjedjljfmcaaGreatDoor
open Go.RowKit
set_option linter.unusedVariables false

theorem cR_mono (l : List UInt8) (ps : List Int) {k m : Nat} (h : k ≤ m) : cR l ps k ≤ cR l ps m := by
  induction m with
  | zero => obtain rfl : k = 0 := by omega
            exact Nat.le_refl _
  | succ m ih =>
    by_cases e : k = m + 1
    · subst e; exact Nat.le_refl _
    · exact Nat.le_trans (ih (by omega)) (by rw [cR]; omega)
theorem cC_mono (l : List UInt8) (ps : List Int) {k m : Nat} (h : k ≤ m) : cC l ps k ≤ cC l ps m := by
  induction m with
  | zero => obtain rfl : k = 0 := by omega
            exact Nat.le_refl _
  | succ m ih =>
    by_cases e : k = m + 1
    · subst e; exact Nat.le_refl _
    · exact Nat.le_trans (ih (by omega)) (by rw [cC]; omega)
/-- Nothing is pending in a matched word. -/
theorem matched_none {l : List UInt8} (hall : AllSym l) {n : Nat} (hn : n = l.length) (h : cR l (prts (ksOf l)) n + cC l (prts (ksOf l)) n = 0) : ∀ k : Nat, (prts (ksOf l))[k]? ≠ some (-2) := by
  intro k hk
  have hkl : k < l.length := by have := (List.getElem?_eq_some_iff.1 hk).1; rw [prts_len, ksOf_len] at this; exact this
  obtain ⟨b, hb⟩ : ∃ b, l[k]? = some b := ⟨_, List.getElem?_eq_getElem hkl⟩
  have hs := hall b (List.mem_of_getElem? hb)
  have hkk := ksOf_at l k b hb
  obtain ⟨c1, c2, c3⟩ := call_kind hs
  have hk2 : kindS (symNo (b.toNat : Int)) ≠ 2 := fun e => by
    have := prts_at_inner (ksOf l) k 2 (by rw [hkk, e]) (by decide) (by decide)
    rw [hk] at this
    simp at this
  have c4 := c3 hk2
  have m1 := cR_mono l (prts (ksOf l)) (show k + 1 ≤ n by omega)
  have m2 := cC_mono l (prts (ksOf l)) (show k + 1 ≤ n by omega)
  rw [cR, hb, Option.getD_some] at m1
  rw [cC, hb, Option.getD_some] at m2
  cases hc : callB (b.toNat : Int) with
  | true => rw [if_pos ⟨hk, hc⟩] at m2; omega
  | false => rw [hc] at c4; rw [if_pos ⟨hk, c4⟩] at m1; omega

theorem kind0_call {b : UInt8} (h : 0 ≤ symNo (b.toNat : Int)) (hk : kindS (symNo (b.toNat : Int)) = 0) : callB (b.toNat : Int) = true := by
  have : b = 40 ∨ b = 91 ∨ b = 41 ∨ b = 93 ∨ b = 97 ∨ b = 98 := by
    unfold symNo at h
    have f (k : UInt8) (e : (b.toNat : Int) = k.toNat) : b = k := UInt8.toNat_inj.1 (by omega)
    by_cases h0 : (b.toNat : Int) = 40
    · exact .inl (f 40 h0)
    by_cases h1 : (b.toNat : Int) = 91
    · exact .inr (.inl (f 91 h1))
    by_cases h2 : (b.toNat : Int) = 41
    · exact .inr (.inr (.inl (f 41 h2)))
    by_cases h3 : (b.toNat : Int) = 93
    · exact .inr (.inr (.inr (.inl (f 93 h3))))
    by_cases h4 : (b.toNat : Int) = 97
    · exact .inr (.inr (.inr (.inr (.inl (f 97 h4)))))
    by_cases h5 : (b.toNat : Int) = 98
    · exact .inr (.inr (.inr (.inr (.inr (f 98 h5)))))
    rw [if_neg h0, if_neg h1, if_neg h2, if_neg h3, if_neg h4, if_neg h5] at h
    omega
  rcases this with rfl | rfl | rfl | rfl | rfl | rfl
  · rfl
  · rfl
  · revert hk; decide
  · revert hk; decide
  · revert hk; decide
  · revert hk; decide

/-- Where the factor that begins at the place j ends. -/
def facEnd (ks : List Nat) (j : Nat) : Nat := match (prts ks)[j]? with | some p => (max (j : Int) p).toNat + 1 | none => j + 1
def facW (s : ByteArray) (k : Nat) : List ByteArray := (facs (ksOf s.data.toList) k).map fun j => s.extract j (facEnd (ksOf s.data.toList) j)
theorem facs_len (ks : List Nat) (k : Nat) : (facs ks k).length ≤ k := by
  rw [facs]
  exact Nat.le_trans (List.length_filter_le _ _) (by simp)
theorem ret_pending0 {ks : List Nat} {k : Nat} (h : ks[k]? = some 1) : (prts ks)[k]? = some (-2) ↔ opns (ks.take k) = [] := by
  rw [prts_at_ret ks k h]
  cases hl : (opns (ks.take k)).getLast? with
  | none => simp [List.getLast?_eq_none_iff.1 hl]
  | some b =>
    constructor
    · intro e
      have := Option.some.inj e
      simp at this
    · intro e; rw [e] at hl; cases hl
theorem fac_step {ks : List Nat} {i : Nat} (hnp : ∀ k : Nat, (prts ks)[k]? ≠ some (-2)) (h0 : opns (ks.take i) = []) (hi : i < ks.length) :
    i < facEnd ks i ∧ facEnd ks i ≤ ks.length ∧ facs ks (facEnd ks i) = facs ks i ++ [i] ∧ opns (ks.take (facEnd ks i)) = [] ∧
      ((ks[i]? = some 0 ∧ ∃ q : Nat, (prts ks)[i]? = some (q : Int) ∧ facEnd ks i = q + 1) ∨ (ks[i]? ≠ some 0 ∧ facEnd ks i = i + 1)) := by
  obtain ⟨x, hx⟩ : ∃ x, ks[i]? = some x := ⟨_, List.getElem?_eq_getElem hi⟩
  by_cases e0 : x = 0
  · subst e0
    rcases prts_at_call ks i hx with h | ⟨q, h1, h2, h3⟩
    · exact absurd h (hnp i)
    · have e : facEnd ks i = q + 1 := by
        unfold facEnd
        rw [h3]
        show (max (i : Int) (q : Int)).toNat + 1 = q + 1
        omega
      obtain ⟨f1, f2, f3, f4, f5⟩ := fac_call h0 hx h3
      rw [e]
      exact ⟨by omega, by omega, f4, f5, .inl ⟨hx, q, h3, rfl⟩⟩
  · by_cases e1 : x = 1
    · subst e1
      exact absurd ((ret_pending0 hx).2 h0) (hnp i)
    · have h3 := prts_at_inner ks i x hx e0 e1
      have e : facEnd ks i = i + 1 := by
        unfold facEnd
        rw [h3]
        show (max (i : Int) (-1)).toNat + 1 = i + 1
        omega
      obtain ⟨f1, f2, f3⟩ := fac_in h0 hx e0 e1
      rw [e]
      exact ⟨by omega, by omega, f2, f3, .inr ⟨fun h => e0 (Option.some.inj (hx.symm.trans h)), rfl⟩⟩
theorem fac_slice (s : ByteArray) (k m : Nat) (e : Int) (he : e = (m : Int)) (h : k ≤ m) (h2 : m ≤ s.size) : ∀ W : World, (Instr.slice 9 (.string s) (some (.int .i64 (k : Int))) (some (.int .i64 e)) none).run Tryz.prog W = .ok (.string (s.extract k m)) W := fun W => by
  subst he
  have := run_slice_string (P := Tryz.prog) W 9 s .i64 .i64 (k : Int) (m : Int) Tryz.underlying9 (by omega) (by omega) (by omega)
  rwa [Int.toNat_natCast, Int.toNat_natCast] at this

/-- What lies behind a call that answers a new list of texts. -/
def TxtPost (xs : List ByteArray) (w : World) (e : Ending) (w' : World) : Prop :=
  ∃ A c, e = .returned (.slice A xs.length c) ∧ w'.ownsRow w.heap.size 9 1 (.slice A xs.length c) xs.length (strsV xs) ∧ Below w.heap.size w w'
def TxtsPost (n : Nat) (xs : List ByteArray) (code : Int) (w : World) (e : Ending) (w' : World) : Prop :=
  ∃ A c, e = .returned (.tuple #[.slice A n c, .int .i64 code]) ∧ w'.ownsRow w.heap.size 9 1 (.slice A n c) n (strsV xs) ∧ Below w.heap.size w w'

set_option maxHeartbeats 6400000 in
set_option maxRecDepth 100000 in
theorem spec_factors (s : ByteArray) (w : World) (h : IsW s) (hm : mB s.data.toList = true) :
    Calls Tryz.prog 14 #[.string s] w (TxtPost (facW s s.size) w) := by
  have h60 := h.1
  have hnp : ∀ k : Nat, (prts (ksOf s.data.toList))[k]? ≠ some (-2) := matched_none h.2 rfl (by simpa [mB] using hm)
  have hp := fun w => spec_partners s w h
  have hat : ∀ (i : Nat) (hi : i < s.size), (ksOf s.data.toList)[i]? = some (kindS (symNo (s[i].toNat : Int))) ∧ 0 ≤ symNo (s[i].toNat : Int) := fun i hi => by
    have hlk : s.data.toList[i]? = some s[i] := by rw [List.getElem?_eq_getElem (by simpa using hi)]; rfl
    exact ⟨ksOf_at _ _ _ hlk, h.2 _ (List.mem_of_getElem? hlk)⟩
  obtain ⟨i0, hi, hz0, hz1, hz2⟩ := info_parts info_str
  obtain ⟨ks, hks⟩ : ∃ ks, ks = ksOf s.data.toList := ⟨_, rfl⟩
  have hkl : ks.length = s.size := by rw [hks, ksOf_len]; simp
  have hfw : ∀ k, facW s k = (facs ks k).map fun j => s.extract j (facEnd ks j) := fun k => by rw [hks]; rfl
  rw [← hks] at hp hnp hat
  have Hp := Lib.hid hp
  have Hkl := Lib.hid hkl
  have Hnp := Lib.hid hnp
  have Hat := Lib.hid hat
  have Hfw := Lib.hid hfw
  clear h hm hp hks hkl hnp hat hfw
  go_enter Tryz.func14, Tryz.ntmps14
  go_wp2_with (go_at_call 15; refine (Hp.out _).mono ?_; rintro e w1 ⟨A, c, rfl, hr, hb⟩)
  go_loopw [4, 5] (fun y j wr => ∃ (k m : Nat) (A' : Option Addr) (c' : Nat), k ≤ s.size ∧ j = .int .i64 k ∧ y = .slice A' m c' ∧ Hid (m = (facs ks k).length ∧ opns (ks.take k) = []) ∧
      wr.ownsRow w1.heap.size 9 1 (.slice A' m c') m (strsV (facW s k)) ∧ Below w1.heap.size w1 wr) (fun _ j _ => s.size - (intOf j).toNat)
  case atStart =>
    refine ⟨0, 0, _, _, Nat.zero_le _, rfl, rfl, ⟨rfl, rfl⟩, ?_, (Below.refl _ _).alloc (Nat.le_refl _) _⟩
    have h := World.ownsRow_lit (base := w1.heap.size) (e := 9) (size := 1) w1 #[] 0 (by simp) (by unfold maxLen; omega) rfl
    simpa [strsV, facW, facs] using h
  case round =>
    obtain ⟨k, m, A', c', hk, rfl, rfl, hm, hR, hB⟩ := hrel
    have hs1 := hB.size
    have hmk : m ≤ k := by rw [hm.out.1]; exact facs_len _ _
    by_cases hlt : k < s.size
    · obtain ⟨g, rfl⟩ : ∃ g, A = some ⟨g, 0, none⟩ := by
        rcases hr.2 with ⟨_, h1⟩ | ⟨g, cap, cur, hv, _⟩
        · omega
        · simp only [Value.slice.injEq] at hv
          exact ⟨g, hv.1⟩
      have hr2 := row_below hr hB
      obtain ⟨f1, f2, f3, f4, f5⟩ := fac_step Hnp.out hm.out.2 (show k < ks.length by rw [Hkl.out]; exact hlt)
      obtain ⟨E, hE⟩ : ∃ E, E = facEnd ks k := ⟨_, rfl⟩
      have hnx : facW s E = facW s k ++ [s.extract k E] := by rw [Hfw.out, Hfw.out, hE, f3, List.map_append]; rfl
      have hnl : (facs ks E).length = m + 1 := by rw [hE, f3, List.length_append, ← hm.out.1]; rfl
      rw [← hE] at f1 f2 f4 f5
      rw [Hkl.out] at f2
      have Hnx := Lib.hid (And.intro hnx (And.intro hnl f4))
      obtain ⟨hka, hkb⟩ := Hat.out k hlt
      clear hnx hnl f3 f4 hE
      rcases f5 with ⟨h0, q, hq, hEq⟩ | ⟨h0, hEq⟩
      · have hc : callB (s[k].toNat : Int) = true := kind0_call hkb (Option.some.inj (hka.symm.trans h0))
        have hcell := nums_cell hr2 k _ hq
        have hsl := fac_slice s k E ((q : Int) + 1) (by omega) (by omega) f2
        have HQ := Lib.hid (show ((q : Int) + 1) = (E : Int) by omega)
        have Hc := Lib.hid hc
        have hq60 : q < 60 := by omega
        have hkq : k < q + 1 := by omega
        clear h0 hka hkb hq hc hEq
        go_wp2_with fail
        refine (spec_call _ _).mono ?_
        rintro e w' ⟨rfl, rfl⟩
        rw [Hc.out]
        go_wp2_with (at_builtin; refine wpList_append_own _ rfl _ _ 37 rfl w1.heap.size 9 i0 (.string ⟨#[]⟩) 1 16 Tryz.underlying37 hi hz0 hz1 hz2 rfl (by decide) _ _ _ rfl (hR.alloc _) ⟨wr.heap.size, 0, none⟩ 1 1 [.string (s.extract k E)] rfl rfl (cell_one_new _ _ _) ?c2 ?c3 ?c4 ?c5 ?_)
        case c2 => simp [Value.oneCell']
        case c3 => unfold maxLen; omega
        case c4 => omega
        case c5 => first | omega | (simp; omega)
        intro v' w2 hown hg2 _
        have hR' : w2.ownsRow w1.heap.size 9 1 v' (m + 1) (strsV (facW s E)) := by
          rw [Hnx.out.1]
          simpa [strsV] using hown
        have hB' : Below w1.heap.size w1 w2 := (hB.alloc hs1 _).grown hg2 (by simp; omega) (fun j e => (hR.lt j e).1)
        obtain ⟨g', c'', rfl⟩ := ownsRow_succ hR'
        clear hown hg2
        go_wp2
        go_roundw
        case rel => exact ⟨E, m + 1, _, _, by omega, by first | rw [HQ.out] | go_num, rfl, ⟨Hnx.out.2.1.symm, Hnx.out.2.2⟩, hR', hB'⟩
        case measure => simp [intOf]; omega
      · have hc : callB (s[k].toNat : Int) = false := by
          cases hc : callB (s[k].toNat : Int) with
          | false => rfl
          | true => exact absurd (hka.trans (by rw [kind_call hc])) h0
        have hsl := fac_slice s k E ((k : Int) + 1) (by omega) (by omega) f2
        have HQ := Lib.hid (show ((k : Int) + 1) = (E : Int) by omega)
        have Hc := Lib.hid hc
        clear h0 hka hkb hc hEq
        go_wp2_with fail
        refine (spec_call _ _).mono ?_
        rintro e w' ⟨rfl, rfl⟩
        rw [Hc.out]
        go_wp2_with (at_builtin; refine wpList_append_own _ rfl _ _ 37 rfl w1.heap.size 9 i0 (.string ⟨#[]⟩) 1 16 Tryz.underlying37 hi hz0 hz1 hz2 rfl (by decide) _ _ _ rfl (hR.alloc _) ⟨wr.heap.size, 0, none⟩ 1 1 [.string (s.extract k E)] rfl rfl (cell_one_new _ _ _) ?c2 ?c3 ?c4 ?c5 ?_)
        case c2 => simp [Value.oneCell']
        case c3 => unfold maxLen; omega
        case c4 => omega
        case c5 => first | omega | (simp; omega)
        intro v' w2 hown hg2 _
        have hR' : w2.ownsRow w1.heap.size 9 1 v' (m + 1) (strsV (facW s E)) := by
          rw [Hnx.out.1]
          simpa [strsV] using hown
        have hB' : Below w1.heap.size w1 w2 := (hB.alloc hs1 _).grown hg2 (by simp; omega) (fun j e => (hR.lt j e).1)
        obtain ⟨g', c'', rfl⟩ := ownsRow_succ hR'
        clear hown hg2
        go_wp2
        go_roundw
        case rel => exact ⟨E, m + 1, _, _, by omega, by first | rw [HQ.out] | go_num, rfl, ⟨Hnx.out.2.1.symm, Hnx.out.2.2⟩, hR', hB'⟩
        case measure => simp [intOf]; omega
    · have e : k = s.size := by omega
      subst e
      go_wp2
      go_ret
      have hln : (facW s s.size).length = m := by rw [Hfw.out, List.length_map, hm.out.1]
      unfold TxtPost
      rw [hln]
      exact ⟨A', c', rfl, row_base hR hb.size, hb.trans (hB.mono hb.size)⟩
end Go.Proofs.YtblgjedjljfmcaaGreatDoor
