/- The law's own small functions on lists of texts: markText, eqStringS, markStringS, heldStringS. -/
import Derived.Test.YtadifihblaalpaaMatch
import Derived.Laws.IdiomStrings
import Derived.BigQuiet
import Derived.Deep.QuietTactic
import Derived.Deep.RegionWith
namespace Go.Proofs.Ytadifihblaalpaa
open Go.RowKit

def dgB (k : Nat) : UInt8 := UInt8.ofNat (48 + k % 10)
/-- The digits of a number. -/
def dg (k : Nat) : List UInt8 := if _h : k = 0 then [] else dg (k / 10) ++ [dgB k]
termination_by k
decreasing_by omega
theorem dg_zero : dg 0 = [] := by rw [dg]; simp
theorem dg_pos {k : Nat} (h : 0 < k) : dg k = dg (k / 10) ++ [dgB k] := by
  conv => lhs; rw [dg]
  rw [dif_neg (by omega)]
theorem dg_len (k : Nat) : (dg k).length ≤ k := by
  induction k using Nat.strongRecOn with
  | ind k ih =>
    by_cases h : 0 < k
    · rw [dg_pos h, List.length_append, List.length_singleton]
      have := ih (k / 10) (by omega)
      omega
    · obtain rfl : k = 0 := by omega
      rw [dg_zero]; exact Nat.le_refl _
def mtL (k : Nat) : List UInt8 := if k = 0 then [109, 48] else 109 :: dg k
def mtS (k : Nat) : ByteArray := ⟨(mtL k).toArray⟩

theorem dig_conv (w : World) (k : Nat) :
    (convert 97 9 (.slice (some ⟨w.heap.size, 0, none⟩) 1 1)).run Try.prog (w.alloc (.cells #[.int .u8 (48 + (k : Int) % 10)] 5)) = .ok (.string ⟨#[dgB k]⟩) (w.alloc (.cells #[.int .u8 (48 + (k : Int) % 10)] 5)) := by
  have e : (48 + (k : Int) % 10) = ((dgB k).toNat : Int) := by
    rw [dgB, UInt8.toNat_ofNat']
    omega
  have := run_convert_bytes_back (P := Try.prog) (w.alloc (.cells #[.int .u8 (48 + (k : Int) % 10)] 5)) 97 9 5 ⟨w.heap.size, 0, none⟩ 1 [dgB k] Try.underlying97 Try.underlying5 Try.underlying9 fun j hj => by
    obtain rfl : j = 0 := by simpa using hj
    rw [e]
    simp [go_sem, Addr.add]
  simpa using this

set_option maxHeartbeats 1600000 in
set_option maxRecDepth 100000 in
theorem mark_text (k : Nat) (w : World) (h0 : 0 < k) (hk : k ≤ 16777216) :
    Calls Try.prog 137 #[.int .i64 (k : Int)] w (TupPost (.string (mtS k)) w) := by
  go_enter Try.func137, Try.ntmps137
  go_wp2
  go_loopw [0, 3] (fun i o wr => ∃ (j : Nat) (t : ByteArray), j ≤ k ∧ i = .int .i64 (j : Int) ∧ o = .string t ∧ t.size ≤ 16777216 ∧ Hid (dg k = dg j ++ t.data.toList) ∧ Below w.heap.size w wr) (fun i _ _ => (intOf i).toNat)
  case atStart => exact ⟨k, ⟨#[]⟩, Nat.le_refl _, rfl, rfl, by show 0 ≤ _; omega, by show _ = _; simp, Below.refl _ _⟩
  case round =>
    obtain ⟨j, t, hj, rfl, rfl, ht, hd, hB⟩ := hrel
    by_cases hlt : 0 < j
    · have hcv := dig_conv wr j
      have hBa := hB.alloc hB.size (.cells #[.int .u8 (48 + (j : Int) % 10)] 5)
      have hz : (⟨#[dgB j]⟩ : ByteArray).size = 1 := rfl
      have fin : ((⟨#[dgB j]⟩ : ByteArray) ++ t).size ≤ 16777216 ∧ Hid (dg k = dg (j / 10) ++ ((⟨#[dgB j]⟩ : ByteArray) ++ t).data.toList) := by
        have e : dg k = dg (j / 10) ++ ((⟨#[dgB j]⟩ : ByteArray) ++ t).data.toList := by
          rw [hd.out, dg_pos hlt, ByteArray.data_append, Array.toList_append, List.append_assoc]
        refine ⟨?_, e⟩
        have h1 := congrArg List.length e
        rw [List.length_append] at h1
        have h2 := dg_len k
        have h4 : ((⟨#[dgB j]⟩ : ByteArray) ++ t).data.toList.length = ((⟨#[dgB j]⟩ : ByteArray) ++ t).data.size := Array.length_toList
        have h3 : ((⟨#[dgB j]⟩ : ByteArray) ++ t).size = ((⟨#[dgB j]⟩ : ByteArray) ++ t).data.size := rfl
        omega
      have Fin := Lib.hid fin
      have hdiv : ((j : Int) / 10) = ((j / 10 : Nat) : Int) := by omega
      have Hdiv := Lib.hid hdiv
      clear fin hdiv
      go_wp2
      go_roundw
      case rel => exact ⟨j / 10, _, by omega, by rw [Hdiv.out], rfl, Fin.out.1, Fin.out.2, hBa⟩
      case measure => simp [intOf]; omega
    · obtain rfl : j = 0 := by omega
      have hm : (⟨#[109]⟩ : ByteArray) ++ t = mtS k := by
        have h1 := hd.out
        rw [dg_zero, List.nil_append] at h1
        rw [mtS, mtL, if_neg (by omega), h1]
        cases t
        rfl
      have Hm := Lib.hid hm
      have hz : (⟨#[109]⟩ : ByteArray).size = 1 := rfl
      rw [show ((0 : Nat) : Int) = 0 from rfl]
      clear hm hd hlt hj
      go_wp2
      go_ret
      exact ⟨by rw [Hm.out]; rfl, hB⟩

def strsV (xs : List ByteArray) : List Value := xs.map .string
theorem info_str : (Try.prog.info? 9).map (fun i => (i.zero, i.size, i.bytes)) = some (some (.string ⟨#[]⟩), 1, 16) := by kernel_rfl

/-- A slice of texts that reads as a list. -/
def Strs (w : World) (A : Option Addr) (n : Nat) (xs : List ByteArray) : Prop :=
  xs.length = n ∧ (0 < n → ∃ g, A = some ⟨g, 0, none⟩ ∧ g < w.heap.size ∧ ∀ (j : Nat) (x : ByteArray), xs[j]? = some x → w.cell? ⟨g, j, none⟩ = some (.string x))
theorem Strs.of_row {w : World} {base : Nat} {A : Option Addr} {n c : Nat} {xs : List ByteArray} (h : w.ownsRow base 9 1 (.slice A n c) n (strsV xs)) : Strs w A n xs := by
  refine ⟨by have := h.1; simpa [strsV] using this, fun hn => ?_⟩
  rcases h.2 with ⟨h0, h1⟩ | ⟨g, cap, cur, hv, _⟩
  · omega
  · simp only [Value.slice.injEq] at hv
    obtain ⟨rfl, _, rfl⟩ := hv
    refine ⟨g, rfl, (h.lt g rfl).2, fun j x hx => ?_⟩
    have hj : j < n := by
      have := (List.getElem?_eq_some_iff.1 hx).1
      have hl := h.1
      simp [strsV] at hl
      omega
    rw [h.cellAt j (by omega)]
    simp [strsV, hx]
theorem Strs.at_ {w : World} {A : Option Addr} {n : Nat} {xs : List ByteArray} (h : Strs w A n xs) (k : Nat) (hk : k < n) : ∃ g x, A = some ⟨g, 0, none⟩ ∧ xs[k]? = some x ∧ g < w.heap.size ∧ w.cell? ⟨g, k, none⟩ = some (.string x) := by
  obtain ⟨g, e, hg, hc⟩ := h.2 (by omega)
  have hl : k < xs.length := by have := h.1; omega
  exact ⟨g, xs[k], e, List.getElem?_eq_getElem hl, hg, hc k _ (List.getElem?_eq_getElem hl)⟩

theorem eq_yes_str (A B : Option Addr) (n ca cb : Nat) (xs : List ByteArray) (w : World) (hn : n ≤ 1048576) (ha : Strs w A n xs) (hb : Strs w B n xs) :
    Calls Try.prog 44 #[.slice A n ca, .slice B n cb] w fun e w' => e = .returned (.bool true) ∧ ∃ m, w' = w.drewN m := by
  go_enter Try.func44, Try.ntmps44
  go_wp2
  go_loopw [5] (fun i wr => ∃ k m : Nat, k ≤ n ∧ i = .int .i64 k ∧ wr = w.drewN m) (fun i _ => n - (intOf i).toNat)
  case atStart => exact ⟨0, 0, Nat.zero_le _, rfl, rfl⟩
  case round =>
    obtain ⟨k, m, hk, rfl, rfl⟩ := hrel
    by_cases hlt : k < n
    · obtain ⟨g, x, rfl, hx, _, hc⟩ := ha.at_ k hlt
      obtain ⟨g', x', rfl, hx', _, hc'⟩ := hb.at_ k hlt
      rw [hx] at hx'
      injection hx' with hx'
      subst hx'
      clear hx
      have hc1 : (w.drewN m).cell? ⟨g, k, none⟩ = some (.string x) := hc
      have hc2 : (w.drewN m).cell? ⟨g', k, none⟩ = some (.string x) := hc'
      go_wp2
      go_quiet (fail)
      go_wp2
      go_roundw
      case rel => exact ⟨k + 1, _, by omega, by go_num, rfl⟩
      case measure => simp [intOf]; omega
    · go_wp2
      go_ret
      exact ⟨rfl, m, rfl⟩

/-- m1, m2, m3 and so on. -/
def rampS (n : Nat) : List ByteArray := (List.range n).map fun i : Nat => mtS (i + 1)
theorem rampS_len (n : Nat) : (rampS n).length = n := by simp [rampS]
theorem rampS_succ (n : Nat) : rampS (n + 1) = rampS n ++ [mtS (n + 1)] := by simp [rampS, List.range_succ]
theorem rampS_at (n k : Nat) (h : k < n) : (rampS n)[k]? = some (mtS (k + 1)) := by simp [rampS, h]

theorem grown_trans {x y z : World} {row : Option Nat} (h : x.grownBy y row) (k : y.grownBy z row) : x.grownBy z row :=
  ⟨k.os.trans h.os, k.tape.trans h.tape, k.output.trans h.output, Nat.le_trans h.size k.size, fun b hb hne => (k.block b (Nat.lt_of_lt_of_le hb h.size) hne).trans (h.block b hb hne)⟩
theorem grown_below {x y : World} (h : Below x.heap.size x y) (row : Option Nat) : x.grownBy y row := ⟨h.os, h.tape, h.output, h.size, fun b hb _ => h.block b hb⟩

structure MarkRelS (w : World) (base n : Nat) (A : Option Addr) (c : Nat) (xs : List ByteArray) (j : Nat) (wr : World) : Prop where
  row : wr.ownsRow base 9 1 (.slice A n c) n (strsV (rampS j ++ xs.drop j))
  grown : w.grownBy wr (Value.slice A n c).ownBlock
theorem MarkRelS.next {w wr w2 : World} {base n g c : Nat} {xs : List ByteArray} {j : Nat} (h : MarkRelS w base n (some ⟨g, 0, none⟩) c xs j wr) (hx : xs.length = n) (hj : j < n) (hb : Below wr.heap.size wr w2) :
    MarkRelS w base n (some ⟨g, 0, none⟩) c xs (j + 1) (w2.setCell ⟨g, j, none⟩ (.string (mtS (j + 1)))) := by
  have h1 := (row_below h.row hb).stored j (.string (mtS (j + 1)))
  refine ⟨?_, grown_trans (grown_trans h.grown (grown_below hb _)) h1.2⟩
  have e : (strsV (rampS j ++ xs.drop j)).set j (.string (mtS (j + 1))) = strsV (rampS (j + 1) ++ xs.drop (j + 1)) := by
    unfold strsV
    rw [← List.map_set, List.set_append_right _ _ (by rw [rampS_len]; exact Nat.le_refl _), rampS_len, Nat.sub_self, rampS_succ, List.append_assoc, List.singleton_append]
    rw [List.drop_eq_getElem_cons (by omega)]
    rfl
  rw [e] at h1
  exact h1.1

end Go.Proofs.Ytadifihblaalpaa
