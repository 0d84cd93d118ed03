/- KindsChecker, of the model and of the program. -/
import Derived.Test.YtiigcphgilpfaacLit
namespace Go.Proofs.Ytiigcphgilpfaac
open Go.RowKit

def kindsCk : Ck :=
  { stack := 2, start := 0, accept := [true, false], call := [[(0, 0), (0, 1)], [(1, 0), (1, 1)]],
    ret := [[[0, 1, 0], [1, 0, 0]], [[1, 1, 1], [1, 1, 1]]], inner := [[0, 0], [1, 1]] }
theorem kinds_bd : BdC kindsCk := by
  refine ⟨?_, ?_, ?_, ?_, ?_⟩ <;> simp [kindsCk, Bd1, Bd2, Bd3, szC, szL, lenI, lenP]
def kindsLay (w : World) : List Obj := [
  .cells #[.int .i64 2, .int .i64 0, .slice (some ⟨w.heap.size + 1, 0, none⟩) 2 2, .slice (some ⟨w.heap.size + 4, 0, none⟩) 2 2, .slice (some ⟨w.heap.size + 11, 0, none⟩) 2 2, .slice (some ⟨w.heap.size + 14, 0, none⟩) 2 2] 27,
  .cells #[.bool true, .bool false] 4,
  .cells #[.int .i64 0, .int .i64 0, .int .i64 0, .int .i64 1] 46,
  .cells #[.int .i64 1, .int .i64 0, .int .i64 1, .int .i64 1] 46,
  .cells #[.slice (some ⟨w.heap.size + 2, 0, none⟩) 2 2, .slice (some ⟨w.heap.size + 3, 0, none⟩) 2 2] 47,
  .cells #[.int .i64 0, .int .i64 1, .int .i64 0] 2,
  .cells #[.int .i64 1, .int .i64 0, .int .i64 0] 2,
  .cells #[.slice (some ⟨w.heap.size + 5, 0, none⟩) 3 3, .slice (some ⟨w.heap.size + 6, 0, none⟩) 3 3] 48,
  .cells #[.int .i64 1, .int .i64 1, .int .i64 1] 2,
  .cells #[.int .i64 1, .int .i64 1, .int .i64 1] 2,
  .cells #[.slice (some ⟨w.heap.size + 8, 0, none⟩) 3 3, .slice (some ⟨w.heap.size + 9, 0, none⟩) 3 3] 48,
  .cells #[.slice (some ⟨w.heap.size + 7, 0, none⟩) 2 2, .slice (some ⟨w.heap.size + 10, 0, none⟩) 2 2] 25,
  .cells #[.int .i64 0, .int .i64 0] 2,
  .cells #[.int .i64 1, .int .i64 1] 2,
  .cells #[.slice (some ⟨w.heap.size + 12, 0, none⟩) 2 2, .slice (some ⟨w.heap.size + 13, 0, none⟩) 2 2] 48]
theorem kinds_owns (w W : World) (hW : W = allocs w (kindsLay w)) : CkE w.heap.size W (.agg #[.int .i64 2, .int .i64 0, .slice (some ⟨w.heap.size + 1, 0, none⟩) 2 2, .slice (some ⟨w.heap.size + 4, 0, none⟩) 2 2, .slice (some ⟨w.heap.size + 11, 0, none⟩) 2 2, .slice (some ⟨w.heap.size + 14, 0, none⟩) 2 2]) kindsCk ([w.heap.size + 1, w.heap.size + 4, w.heap.size + 2, w.heap.size + 3, w.heap.size + 11, w.heap.size + 7, w.heap.size + 5, w.heap.size + 6, w.heap.size + 10, w.heap.size + 8, w.heap.size + 9, w.heap.size + 14, w.heap.size + 12, w.heap.size + 13]) := by
  have H : ∀ (i : Nat) (o : Obj), (kindsLay w)[i]? = some o → W.heap[w.heap.size + i]? = some o := fun i o h => by rw [hW]; exact allocs_at _ w i o h
  have ND : ∀ l : List Nat, l.Nodup → (l.map (w.heap.size + ·)).Nodup := fun l h => nodup_at _ _ h
  have h1 : BoolsE w.heap.size W (.slice (some ⟨w.heap.size + 1, 0, none⟩) 2 2) [true, false] [w.heap.size + 1] := rowE_lit 2 (H 1 _ rfl) (by omega) rfl rfl rfl (by unfold maxLen; omega)
  have h2 : Push2E w.heap.size W (.slice (some ⟨w.heap.size + 4, 0, none⟩) 2 2) [[(0, 0), (0, 1)], [(1, 0), (1, 1)]] [w.heap.size + 4, w.heap.size + 2, w.heap.size + 3] :=
    many_lit (bss := [[w.heap.size + 2], [w.heap.size + 3]]) 2 (H 4 _ rfl) (by omega) rfl ⟨rowE_lit 2 (H 2 _ rfl) (by omega) rfl rfl rfl (by unfold maxLen; omega), rowE_lit 2 (H 3 _ rfl) (by omega) rfl rfl rfl (by unfold maxLen; omega), trivial⟩ (ND [4, 2, 3] (by decide)) (by unfold maxLen; omega)

  have r0 : Ints2E w.heap.size W (.slice (some ⟨w.heap.size + 7, 0, none⟩) 2 2) [[0, 1, 0], [1, 0, 0]] [w.heap.size + 7, w.heap.size + 5, w.heap.size + 6] :=
    many_lit (bss := [[w.heap.size + 5], [w.heap.size + 6]]) 2 (H 7 _ rfl) (by omega) rfl ⟨rowE_lit 3 (H 5 _ rfl) (by omega) rfl rfl rfl (by unfold maxLen; omega), rowE_lit 3 (H 6 _ rfl) (by omega) rfl rfl rfl (by unfold maxLen; omega), trivial⟩ (ND [7, 5, 6] (by decide)) (by unfold maxLen; omega)
  have r1 : Ints2E w.heap.size W (.slice (some ⟨w.heap.size + 10, 0, none⟩) 2 2) [[1, 1, 1], [1, 1, 1]] [w.heap.size + 10, w.heap.size + 8, w.heap.size + 9] :=
    many_lit (bss := [[w.heap.size + 8], [w.heap.size + 9]]) 2 (H 10 _ rfl) (by omega) rfl ⟨rowE_lit 3 (H 8 _ rfl) (by omega) rfl rfl rfl (by unfold maxLen; omega), rowE_lit 3 (H 9 _ rfl) (by omega) rfl rfl rfl (by unfold maxLen; omega), trivial⟩ (ND [10, 8, 9] (by decide)) (by unfold maxLen; omega)
  have h3 : Ints3E w.heap.size W (.slice (some ⟨w.heap.size + 11, 0, none⟩) 2 2) [[[0, 1, 0], [1, 0, 0]], [[1, 1, 1], [1, 1, 1]]] [w.heap.size + 11, w.heap.size + 7, w.heap.size + 5, w.heap.size + 6, w.heap.size + 10, w.heap.size + 8, w.heap.size + 9] :=
    many_lit (bss := [[w.heap.size + 7, w.heap.size + 5, w.heap.size + 6], [w.heap.size + 10, w.heap.size + 8, w.heap.size + 9]]) 2 (H 11 _ rfl) (by omega) rfl ⟨r0, r1, trivial⟩ (ND [11, 7, 5, 6, 10, 8, 9] (by decide)) (by unfold maxLen; omega)
  have h4 : Ints2E w.heap.size W (.slice (some ⟨w.heap.size + 14, 0, none⟩) 2 2) [[0, 0], [1, 1]] [w.heap.size + 14, w.heap.size + 12, w.heap.size + 13] :=
    many_lit (bss := [[w.heap.size + 12], [w.heap.size + 13]]) 2 (H 14 _ rfl) (by omega) rfl ⟨rowE_lit 2 (H 12 _ rfl) (by omega) rfl rfl rfl (by unfold maxLen; omega), rowE_lit 2 (H 13 _ rfl) (by omega) rfl rfl rfl (by unfold maxLen; omega), trivial⟩ (ND [14, 12, 13] (by decide)) (by unfold maxLen; omega)
  exact ⟨_, _, _, _, _, _, _, _, rfl, h1, h2, h3, h4, rfl, ND [1, 4, 2, 3, 11, 7, 5, 6, 10, 8, 9, 14, 12, 13] (by decide)⟩

set_option maxHeartbeats 3200000 in
set_option maxRecDepth 100000 in
theorem spec_KindsChecker (w : World) : Calls Try.prog 14 #[] w (CkPost kindsCk w) := by
  have key := kinds_owns w _ rfl
  have hb := allocs_below (kindsLay w) w w w.heap.size (Below.refl _ _) (Nat.le_refl _)
  have Key := Lib.hid key
  have Hb := Lib.hid hb
  clear key hb
  go_enter Try.func14, Try.ntmps14
  go_wp2
  refine bodyPost_ret (v := .agg #[.int .i64 2, .int .i64 0, .slice (some ⟨w.heap.size + 1, 0, none⟩) 2 2, .slice (some ⟨w.heap.size + 4, 0, none⟩) 2 2, .slice (some ⟨w.heap.size + 11, 0, none⟩) 2 2, .slice (some ⟨w.heap.size + 14, 0, none⟩) 2 2]) (by simp [results, Try.results14, go_sem]) rfl ?_
  exact ⟨_, _, rfl, Key.out, Hb.out⟩

set_option maxHeartbeats 3200000 in
set_option maxRecDepth 100000 in
theorem impl_KindsChecker (w : World) : Calls Try.prog 15 #[] w (CkPost kindsCk w) := by
  have key := kinds_owns w _ rfl
  have hb := allocs_below (kindsLay w) w w w.heap.size (Below.refl _ _) (Nat.le_refl _)
  have Key := Lib.hid key
  have Hb := Lib.hid hb
  clear key hb
  go_enter Try.func15, Try.ntmps15
  go_wp2
  refine bodyPost_ret (v := .agg #[.int .i64 2, .int .i64 0, .slice (some ⟨w.heap.size + 1, 0, none⟩) 2 2, .slice (some ⟨w.heap.size + 4, 0, none⟩) 2 2, .slice (some ⟨w.heap.size + 11, 0, none⟩) 2 2, .slice (some ⟨w.heap.size + 14, 0, none⟩) 2 2]) (by simp [results, Try.results15, go_sem]) rfl ?_
  exact ⟨_, _, rfl, Key.out, Hb.out⟩
end Go.Proofs.Ytiigcphgilpfaac
