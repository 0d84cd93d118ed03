/- Steps of a run, of the model: l00Own, l02Step, l02Go, l02Given. -/
import Derived.Test.YtcboalnpbmnfcaaRunM
import Derived.Test.YtcboalnpbmnfcaaOk
import Derived.Test.YtcboalnpbmnfcaaWord
import Derived.Deep.AppendLies
import Derived.Deep.RegionLaw
import Derived.Deep.RegionWith
import Derived.BigRegion
namespace Go.Proofs.Ytcboalnpbmnfcaa
open Go.RowKit
set_option linter.unusedVariables false

theorem ints_news {base g n c : Nat} {w : World} {xs : List Int} {bs : List Nat} (h : IntsE base w (.slice (some ⟨g, 0, none⟩) n c) xs bs) : ∀ j u, (xs.flatMap fun x => [Value.int .i64 x])[j]? = some u → w.cell? ((⟨g, 0, none⟩ : Addr).add j) = some u := by
  intro j u hu
  have e : (⟨g, 0, none⟩ : Addr).add j = ⟨g, j, none⟩ := by unfold Addr.add; split <;> simp_all
  rw [e]
  have hl : (xs.flatMap fun x => [Value.int .i64 x]) = xs.map fun x => Value.int .i64 x := by
    clear h hu
    induction xs with
    | nil => rfl
    | cons x xs ih => rw [List.flatMap_cons, ih]; rfl
  rw [hl, List.getElem?_map, Option.map_eq_some_iff] at hu
  obtain ⟨x, hx, rfl⟩ := hu
  exact IntsE.cell' h hx
theorem ints_flat (xs : List Int) : (xs.flatMap fun x => [Value.int .i64 x]) = xs.map fun x => Value.int .i64 x := by
  induction xs with
  | nil => rfl
  | cons x xs ih => rw [List.flatMap_cons, ih]; rfl
theorem ints_new (w : World) : w.heap.size ≤ w.heap.size ∧ (w.alloc (.cells #[] 2)).ownsRow w.heap.size 2 1 (.slice (some ⟨w.heap.size, 0, none⟩) 0 0) 0 [] :=
  ⟨Nat.le_refl _, by
    have := World.ownsRow_lit (base := w.heap.size) (e := 2) (size := 1) w #[] 0 (Nat.le_refl _) (Nat.zero_le _) rfl
    simpa using this⟩
theorem run_append_of_nil {P : Program} (w : World) (base : Nat) (t ty e : TypeId) (i : TypeInfo) (size : Nat) (ht : P.underlying t = some (.slice e)) (hi : P.info? e = some i)
    (v : Value) (n : Nat) (xs : List Value) (hown : w.ownsRow base e size v n xs) (c : Nat) : (Builtin.append_ #[t, t] ty #[v, .slice none 0 c]).run P w = .ok v w := by
  rcases hown.2 with ⟨rfl, rfl⟩ | ⟨g, cap, cur, rfl, _, _, hnc, _⟩
  · simp [Builtin.append_, run_underlying ht, sizeOf, typeInfo, hi, Builtin.lenOf, Builtin.firstCells]
  · simp [Builtin.append_, run_underlying ht, sizeOf, typeInfo, hi, Builtin.lenOf, Builtin.firstCells, hnc, storeCells]

set_option maxHeartbeats 1600000 in
set_option maxRecDepth 100000 in
theorem spec_own {base : Nat} {v : Value} {xs : List Int} {bs : List Nat} (w : World) (hn : Bd1 xs) (ha : IntsE base w v xs bs) : Calls Try.prog 176 #[v] w (NewPost IntsE xs w) := by
  obtain ⟨i0, hi, hz0, hz1, hz2⟩ := info_parts toInfo_i64
  obtain ⟨A, ca, rfl⟩ := RowE.slice ha
  unfold Bd1 at hn
  have hr := (ints_new w).2
  have hb0 : Below w.heap.size w (w.alloc (.cells #[] 2)) := (Below.refl _ _).alloc (Nat.le_refl _) _
  rcases A with _ | ad
  · have h0 : xs.length = 0 := by
      rcases Nat.eq_zero_or_pos xs.length with h | h
      · exact h
      · obtain ⟨g, hg, _⟩ := RowE.head ha h
        cases hg
    have hx : xs = [] := List.eq_nil_of_length_eq_zero h0
    subst hx
    have hap := run_append_of_nil (P := Try.prog) (w.alloc (.cells #[] 2)) w.heap.size 48 48 2 i0 1 Try.underlying48 hi _ 0 [] hr ca
    have Hr := Lib.hid hr
    clear ha h0 hr
    go_enter Try.func176, Try.ntmps176
    go_wp2
    go_ret
    exact ⟨_, _, rfl, ⟨by simpa using Hr.out, rfl⟩, hb0⟩
  · have hnews : ∀ j u, (xs.flatMap fun x => [Value.int .i64 x])[j]? = some u → (w.alloc (.cells #[] 2)).cell? (ad.add j) = some u := by
      intro j u hu
      rcases Nat.eq_zero_or_pos xs.length with h | h
      · rw [List.eq_nil_of_length_eq_zero h] at hu
        simp at hu
      · obtain ⟨g, hg, hgl, _⟩ := RowE.head ha h
        obtain rfl : ad = ⟨g, 0, none⟩ := Option.some.inj hg
        exact (hb0.cell (by rw [add_block]; exact hgl)).trans (ints_news ha j u hu)
    have hone : ∀ u ∈ (xs.flatMap fun x => [Value.int .i64 x]), u.oneCell' = true := by
      rw [ints_flat]
      intro u hu
      obtain ⟨x, _, rfl⟩ := List.mem_map.1 hu
      rfl
    have hlen : (xs.flatMap fun x => [Value.int .i64 x]).length = xs.length * 1 := by rw [ints_flat, List.length_map, Nat.mul_one]
    have Hn := Lib.hid hnews
    have Ho := Lib.hid hone
    have Hl := Lib.hid hlen
    have Hr := Lib.hid hr
    clear hnews hone hlen hr ha
    go_enter Try.func176, Try.ntmps176
    go_wp2_with (at_builtin; refine wpList_append_own _ rfl _ _ 48 rfl w.heap.size 2 i0 (.int .i64 0) 1 8 Try.underlying48 hi hz0 hz1 hz2 rfl (by decide) _ 0 [] rfl Hr.out ad xs.length ca _ rfl Hl.out Hn.out Ho.out ?c1 ?c2 ?c3 ?_)
    case c1 => unfold maxLen; omega
    case c2 => omega
    case c3 => simp
    intro v' w' hown hgrow _
    have hb1 := hb0.grown hgrow (by simp) (fun k hk => by
      have : k = w.heap.size := by simpa [Value.ownBlock, eq_comm] using hk
      omega)
    go_wp2
    go_ret
    exact ⟨_, _, rfl, ⟨by simpa using hown, rfl⟩, hb1⟩
end Go.Proofs.Ytcboalnpbmnfcaa
