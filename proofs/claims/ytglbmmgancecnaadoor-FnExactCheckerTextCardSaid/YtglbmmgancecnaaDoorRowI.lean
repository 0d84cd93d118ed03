/- Numbers behind a text, of the program. -/
import Derived.Test.YtglbmmgancecnaaDoorRowT
import Derived.Test.YtglbmmgancecnaaDoorFmtG
namespace Go.Proofs.YtglbmmgancecnaaDoor
open Go.RowKit
set_option linter.unusedVariables false
set_option maxHeartbeats 3200000 in
set_option maxRecDepth 100000 in
theorem impl_row (t : ByteArray) (g o n c : Nat) (xs : List Int) (w : World) (ht : t.size ≤ 1000000) (hn : xs.length = n) (hn2 : n ≤ 10000) (hx : Big xs) (hg : g < w.heap.size) (hp : Pow10 w)
    (hc : ∀ (j : Nat) x, xs[j]? = some x → w.cell? ⟨g, o + j, none⟩ = some (.int .i64 x)) :
    Calls Tryd.prog 36 #[.string t, .slice (some ⟨g, o, none⟩) n c] w (TupPost (.string (rowT t xs)) w) := by
  have Hn := Lib.hid hn
  have Hc := Lib.hid hc
  have Hx := Lib.hid hx
  have Hp := Lib.hid hp
  clear hn hc hx hp
  go_enter Tryd.func36, Tryd.ntmps36
  go_wp2
  go_loopw [0, 9] (fun s i wr => ∃ (j : Nat) (u : ByteArray), j ≤ n ∧ i = .int .i64 j ∧ s = .string u ∧ u.size ≤ 1000000 + 20 * j ∧ Hid (u = rowT t (xs.take j)) ∧ Below w.heap.size w wr) (fun _ i _ => n - (intOf i).toNat)
  case atStart => exact ⟨0, t, Nat.zero_le _, rfl, rfl, by omega, rfl, Below.refl _ _⟩
  case round =>
    obtain ⟨j, u, hj, rfl, rfl, hu, hH, hB⟩ := hrel
    by_cases hlt : j < n
    · have hkx : j < xs.length := by rw [Hn.out]; exact hlt
      obtain ⟨x, hxj⟩ : ∃ x, xs[j]? = some x := ⟨_, List.getElem?_eq_getElem hkx⟩
      have hcx := (hB.cell (p := ⟨g, o + j, none⟩) hg).trans (Hc.out j x hxj)
      have hbx := Hx.out x (List.mem_of_getElem? hxj)
      obtain ⟨m, rfl⟩ : ∃ m : Nat, x = (m : Int) := ⟨x.toNat, by omega⟩
      have HD := Lib.hid (fmt_decG m (by omega) wr (Hp.out.later hB))
      have hd := decS_19 m (by omega)
      have hnx : Hid (u ++ (spB ++ decS m) = rowT t (xs.take (j + 1))) := by
        show _ = _
        rw [rowT_succ hxj, ← hH.out]; rfl
      have hs := hB.size
      have hz : (⟨#[32]⟩ : ByteArray).size = 1 := rfl
      rw [show spB = (⟨#[32]⟩ : ByteArray) from rfl] at hnx
      generalize decS m = dm at *
      have hsz : (u ++ ((⟨#[32]⟩ : ByteArray) ++ dm)).size ≤ 1000000 + 20 * (j + 1) := by rw [ByteArray.size_append, ByteArray.size_append]; omega
      have Hsz := Lib.hid hsz
      have hov : ¬ (9223372036854775807 < 1 + dm.size) := by omega
      have hov2 : ¬ (9223372036854775807 < u.size + (1 + dm.size)) := by omega
      clear hkx hxj hbx hH hsz
      go_wp2_with fail
      refine HD.out.mono ?_
      rintro e w2 ⟨rfl, hb2⟩
      go_wp2
      go_roundw
      case rel => exact ⟨j + 1, _, by omega, by go_num, rfl, Hsz.out, hnx, hB.trans (hb2.mono hs)⟩
      case measure => simp [intOf]; omega
    · have e : j = n := by omega
      subst e
      have hall : Hid (u = rowT t xs) := by
        have h1 := hH.out
        rwa [← Hn.out, List.take_length] at h1
      clear hH
      go_wp2
      go_ret
      exact ⟨by rw [hall.out]; rfl, hB⟩
end Go.Proofs.YtglbmmgancecnaaDoor
