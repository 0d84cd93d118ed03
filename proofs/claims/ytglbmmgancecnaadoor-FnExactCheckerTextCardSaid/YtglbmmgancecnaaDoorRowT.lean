/- Numbers behind a text, of the model. -/
import Derived.Test.YtglbmmgancecnaaDoorDecG
import Derived.Test.YtglbmmgancecnaaDoorBox
namespace Go.Proofs.YtglbmmgancecnaaDoor
open Go.RowKit
set_option linter.unusedVariables false

def spB : ByteArray := ⟨#[32]⟩
/-- Numbers behind a text, each with a blank ahead. -/
def rowT (t : ByteArray) (xs : List Int) : ByteArray := xs.foldl (fun t x => t ++ (spB ++ decS x.toNat)) t
theorem rowT_succ {t : ByteArray} {xs : List Int} {k : Nat} {x : Int} (h : xs[k]? = some x) : rowT t (xs.take (k + 1)) = rowT t (xs.take k) ++ (spB ++ decS x.toNat) := by
  unfold rowT
  rw [List.take_add_one, h, Option.toList_some, List.foldl_append]
  rfl
theorem decS_19 (n : Nat) (h : n ≤ 9223372036854775807) : (decS n).size ≤ 19 := decD_pow 18 n (by omega)
theorem rowT_size (t : ByteArray) (xs : List Int) (h : ∀ x ∈ xs, 0 ≤ x ∧ x ≤ 9223372036854775807) : (rowT t xs).size ≤ t.size + 20 * xs.length := by
  unfold rowT
  induction xs generalizing t with
  | nil => simp
  | cons x xs ih =>
    rw [List.foldl_cons]
    have h1 := ih (t ++ (spB ++ decS x.toNat)) (fun y hy => h y (List.mem_cons_of_mem _ hy))
    have h2 := h x List.mem_cons_self
    have h3 := decS_19 x.toNat (by omega)
    have h4 : spB.size = 1 := rfl
    rw [ByteArray.size_append, ByteArray.size_append] at h1
    rw [List.length_cons]
    omega
def Big (xs : List Int) : Prop := ∀ x ∈ xs, 0 ≤ x ∧ x ≤ 9223372036854775807
set_option maxHeartbeats 3200000 in
set_option maxRecDepth 100000 in
theorem spec_row (t : ByteArray) (g o n c : Nat) (xs : List Int) (w : World) (ht : t.size ≤ 1000000) (hn : xs.length = n) (hn2 : n ≤ 10000) (hx : Big xs) (hg : g < w.heap.size)
    (hc : ∀ (j : Nat) x, xs[j]? = some x → w.cell? ⟨g, o + j, none⟩ = some (.int .i64 x)) :
    Calls Tryd.prog 14 #[.string t, .slice (some ⟨g, o, none⟩) n c] w (TupPost (.string (rowT t xs)) w) := by
  have Hn := Lib.hid hn
  have Hc := Lib.hid hc
  have Hx := Lib.hid hx
  clear hn hc hx
  go_enter Tryd.func14, Tryd.ntmps14
  go_wp2
  go_loopw [0, 5] (fun s i wr => ∃ (j : Nat) (u : ByteArray), j ≤ n ∧ i = .int .i64 j ∧ s = .string u ∧ u.size ≤ 1000000 + 20 * j ∧ Hid (u = rowT t (xs.take j)) ∧ Below w.heap.size w wr) (fun _ i _ => n - (intOf i).toNat)
  case atStart => exact ⟨0, t, Nat.zero_le _, rfl, rfl, by omega, rfl, Below.refl _ _⟩
  case round =>
    obtain ⟨j, u, hj, rfl, rfl, hu, hH, hB⟩ := hrel
    by_cases hlt : j < n
    · have hkx : j < xs.length := by rw [Hn.out]; exact hlt
      obtain ⟨x, hxj⟩ : ∃ x, xs[j]? = some x := ⟨_, List.getElem?_eq_getElem hkx⟩
      have hcx := (hB.cell (p := ⟨g, o + j, none⟩) hg).trans (Hc.out j x hxj)
      have hbx := Hx.out x (List.mem_of_getElem? hxj)
      obtain ⟨m, rfl⟩ : ∃ m : Nat, x = (m : Int) := ⟨x.toNat, by omega⟩
      have HD := Lib.hid (fun W => spec_decG m (by omega) W)
      have hd := decS_19 m (by omega)
      have hnx : Hid (u ++ (spB ++ decS m) = rowT t (xs.take (j + 1))) := by
        show _ = _
        rw [rowT_succ hxj, ← hH.out]; rfl
      have hs := hB.size
      have hz : (⟨#[32]⟩ : ByteArray).size = 1 := rfl
      rw [show spB = (⟨#[32]⟩ : ByteArray) from rfl] at hnx
      generalize decS m = dm at *
      have hsz : (u ++ ((⟨#[32]⟩ : ByteArray) ++ dm)).size ≤ 1000000 + 20 * (j + 1) := by rw [ByteArray.size_append, ByteArray.size_append]; omega
      have Hsz := Lib.hid hsz
      have hov : ¬ (9223372036854775807 < 1 + dm.size) := by omega
      have hov2 : ¬ (9223372036854775807 < u.size + (1 + dm.size)) := by omega
      clear hkx hxj hbx hH hsz
      go_wp2_with fail
      refine (HD.out _).mono ?_
      rintro e w2 ⟨rfl, hb2⟩
      go_wp2
      go_roundw
      case rel => exact ⟨j + 1, _, by omega, by go_num, rfl, Hsz.out, hnx, hB.trans (hb2.mono hs)⟩
      case measure => simp [intOf]; omega
    · have e : j = n := by omega
      subst e
      have hall : Hid (u = rowT t xs) := by
        have h1 := hH.out
        rwa [← Hn.out, List.take_length] at h1
      clear hH
      go_wp2
      go_ret
      exact ⟨by rw [hall.out]; rfl, hB⟩
end Go.Proofs.YtglbmmgancecnaaDoor
