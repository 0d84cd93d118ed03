/- slices.Clone where the program calls it; presentStack. -/
import Derived.Test.YthdjoligopmepabTakesS
import Derived.WalkSpells
namespace Go.Proofs.Ythdjoligopmepab
open Go.RowKit
set_option linter.unusedVariables false

set_option maxHeartbeats 1600000 in
set_option maxRecDepth 100000 in
theorem impl_clone {base : Nat} {v : Value} {xs : List Int} {bs : List Nat} (w : World) (hn : Bd1 xs) (ha : IntsE base w v xs bs) : Calls Try.prog 50 #[v] w (NewPost IntsE xs w) := by
  obtain ⟨i0, hi, hz0, hz1, hz2⟩ := info_parts toInfo_i64
  obtain ⟨A, ca, rfl⟩ := RowE.slice ha
  unfold Bd1 at hn
  have hr := (ints_new w).2
  have hb0 : Below w.heap.size w (w.alloc (.cells #[] 2)) := (Below.refl _ _).alloc (Nat.le_refl _) _
  rcases A with _ | ad
  · have h0 : xs.length = 0 ∧ ca = 0 := by
      rcases ha.1.2 with ⟨hv, h1⟩ | ⟨g, cap, cur, hv, _⟩
      · simp only [Value.slice.injEq] at hv
        exact ⟨hv.2.1, hv.2.2⟩
      · simp only [Value.slice.injEq] at hv
        cases hv.1
    obtain ⟨h0, rfl⟩ := h0
    have hx : xs = [] := List.eq_nil_of_length_eq_zero h0
    subst hx
    have he := fun W : World => Lib.run_eql_slice_nil (P := Try.prog) W 28 2 none 0 0 0 0 Try.underlying28
    clear ha h0 hr
    go_enter Try.func50, Try.ntmps50
    go_wp2
    go_ret
    exact ⟨_, [], rfl, ⟨by simpa using World.ownsRow_nil _ _ _ _, rfl⟩, Below.refl _ _⟩
  · have hnews : ∀ j u, (xs.flatMap fun x => [Value.int .i64 x])[j]? = some u → (w.alloc (.cells #[] 2)).cell? (ad.add j) = some u := by
      intro j u hu
      rcases Nat.eq_zero_or_pos xs.length with h | h
      · rw [List.eq_nil_of_length_eq_zero h] at hu
        simp at hu
      · obtain ⟨g, hg, hgl, _⟩ := RowE.head ha h
        obtain rfl : ad = ⟨g, 0, none⟩ := Option.some.inj hg
        exact (hb0.cell (by rw [add_block]; exact hgl)).trans (ints_news ha j u hu)
    have hone : ∀ u ∈ (xs.flatMap fun x => [Value.int .i64 x]), u.oneCell' = true := by
      rw [ints_flat]
      intro u hu
      obtain ⟨x, _, rfl⟩ := List.mem_map.1 hu
      rfl
    have hlen : (xs.flatMap fun x => [Value.int .i64 x]).length = xs.length * 1 := by rw [ints_flat, List.length_map, Nat.mul_one]
    have he := fun W : World => Lib.run_eql_slice_nil (P := Try.prog) W 28 2 (some ad) xs.length ca 0 0 Try.underlying28
    have Hn := Lib.hid hnews
    have Ho := Lib.hid hone
    have Hl := Lib.hid hlen
    have Hr := Lib.hid hr
    clear hnews hone hlen hr ha
    go_enter Try.func50, Try.ntmps50
    go_wp2_with (at_builtin; refine wpList_append_own _ rfl _ _ 28 rfl w.heap.size 2 i0 (.int .i64 0) 1 8 Try.underlying28 hi hz0 hz1 hz2 rfl (by decide) _ 0 [] rfl Hr.out ad xs.length ca _ rfl Hl.out Hn.out Ho.out ?c1 ?c2 ?c3 ?_)
    case c1 => unfold maxLen; omega
    case c2 => omega
    case c3 => simp
    intro v' w' hown hgrow _
    have hb1 := hb0.grown hgrow (by simp) (fun k hk => by
      have : k = w.heap.size := by simpa [Value.ownBlock, eq_comm] using hk
      omega)
    go_wp2
    go_ret
    exact ⟨_, _, rfl, ⟨by simpa using hown, rfl⟩, hb1⟩
end Go.Proofs.Ythdjoligopmepab
