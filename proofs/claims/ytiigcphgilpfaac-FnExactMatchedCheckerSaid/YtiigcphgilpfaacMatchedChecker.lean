/- MatchedChecker, of the model and of the program. -/
import Derived.Test.YtiigcphgilpfaacLit
namespace Go.Proofs.Ytiigcphgilpfaac
open Go.RowKit

def matchedCk : Ck :=
  { stack := 2, start := 0, accept := [true, false, false], call := [[(1, 0), (1, 0)], [(1, 1), (1, 1)], [(2, 0), (2, 0)]],
    ret := [[[2, 2, 2], [2, 2, 2]], [[0, 1, 2], [0, 1, 2]], [[2, 2, 2], [2, 2, 2]]], inner := [[0, 0], [1, 1], [2, 2]] }
theorem matched_bd : BdC matchedCk := by
  refine ⟨?_, ?_, ?_, ?_, ?_⟩ <;> simp [matchedCk, Bd1, Bd2, Bd3, szC, szL, lenI, lenP]
def matchedLay (w : World) : List Obj := [
  .cells #[.int .i64 2, .int .i64 0, .slice (some ⟨w.heap.size + 1, 0, none⟩) 3 3, .slice (some ⟨w.heap.size + 5, 0, none⟩) 3 3, .slice (some ⟨w.heap.size + 15, 0, none⟩) 3 3, .slice (some ⟨w.heap.size + 19, 0, none⟩) 3 3] 27,
  .cells #[.bool true, .bool false, .bool false] 4,
  .cells #[.int .i64 1, .int .i64 0, .int .i64 1, .int .i64 0] 46,
  .cells #[.int .i64 1, .int .i64 1, .int .i64 1, .int .i64 1] 46,
  .cells #[.int .i64 2, .int .i64 0, .int .i64 2, .int .i64 0] 46,
  .cells #[.slice (some ⟨w.heap.size + 2, 0, none⟩) 2 2, .slice (some ⟨w.heap.size + 3, 0, none⟩) 2 2, .slice (some ⟨w.heap.size + 4, 0, none⟩) 2 2] 47,
  .cells #[.int .i64 2, .int .i64 2, .int .i64 2] 2,
  .cells #[.int .i64 2, .int .i64 2, .int .i64 2] 2,
  .cells #[.slice (some ⟨w.heap.size + 6, 0, none⟩) 3 3, .slice (some ⟨w.heap.size + 7, 0, none⟩) 3 3] 48,
  .cells #[.int .i64 0, .int .i64 1, .int .i64 2] 2,
  .cells #[.int .i64 0, .int .i64 1, .int .i64 2] 2,
  .cells #[.slice (some ⟨w.heap.size + 9, 0, none⟩) 3 3, .slice (some ⟨w.heap.size + 10, 0, none⟩) 3 3] 48,
  .cells #[.int .i64 2, .int .i64 2, .int .i64 2] 2,
  .cells #[.int .i64 2, .int .i64 2, .int .i64 2] 2,
  .cells #[.slice (some ⟨w.heap.size + 12, 0, none⟩) 3 3, .slice (some ⟨w.heap.size + 13, 0, none⟩) 3 3] 48,
  .cells #[.slice (some ⟨w.heap.size + 8, 0, none⟩) 2 2, .slice (some ⟨w.heap.size + 11, 0, none⟩) 2 2, .slice (some ⟨w.heap.size + 14, 0, none⟩) 2 2] 25,
  .cells #[.int .i64 0, .int .i64 0] 2,
  .cells #[.int .i64 1, .int .i64 1] 2,
  .cells #[.int .i64 2, .int .i64 2] 2,
  .cells #[.slice (some ⟨w.heap.size + 16, 0, none⟩) 2 2, .slice (some ⟨w.heap.size + 17, 0, none⟩) 2 2, .slice (some ⟨w.heap.size + 18, 0, none⟩) 2 2] 48]
theorem matched_owns (w W : World) (hW : W = allocs w (matchedLay w)) : CkE w.heap.size W (.agg #[.int .i64 2, .int .i64 0, .slice (some ⟨w.heap.size + 1, 0, none⟩) 3 3, .slice (some ⟨w.heap.size + 5, 0, none⟩) 3 3, .slice (some ⟨w.heap.size + 15, 0, none⟩) 3 3, .slice (some ⟨w.heap.size + 19, 0, none⟩) 3 3]) matchedCk ([w.heap.size + 1, w.heap.size + 5, w.heap.size + 2, w.heap.size + 3, w.heap.size + 4, w.heap.size + 15, w.heap.size + 8, w.heap.size + 6, w.heap.size + 7, w.heap.size + 11, w.heap.size + 9, w.heap.size + 10, w.heap.size + 14, w.heap.size + 12, w.heap.size + 13, w.heap.size + 19, w.heap.size + 16, w.heap.size + 17, w.heap.size + 18]) := by
  have H : ∀ (i : Nat) (o : Obj), (matchedLay w)[i]? = some o → W.heap[w.heap.size + i]? = some o := fun i o h => by rw [hW]; exact allocs_at _ w i o h
  have ND : ∀ l : List Nat, l.Nodup → (l.map (w.heap.size + ·)).Nodup := fun l h => nodup_at _ _ h
  have h1 : BoolsE w.heap.size W (.slice (some ⟨w.heap.size + 1, 0, none⟩) 3 3) [true, false, false] [w.heap.size + 1] := rowE_lit 3 (H 1 _ rfl) (by omega) rfl rfl rfl (by unfold maxLen; omega)
  have h2 : Push2E w.heap.size W (.slice (some ⟨w.heap.size + 5, 0, none⟩) 3 3) [[(1, 0), (1, 0)], [(1, 1), (1, 1)], [(2, 0), (2, 0)]] [w.heap.size + 5, w.heap.size + 2, w.heap.size + 3, w.heap.size + 4] :=
    many_lit (bss := [[w.heap.size + 2], [w.heap.size + 3], [w.heap.size + 4]]) 3 (H 5 _ rfl) (by omega) rfl ⟨rowE_lit 2 (H 2 _ rfl) (by omega) rfl rfl rfl (by unfold maxLen; omega), rowE_lit 2 (H 3 _ rfl) (by omega) rfl rfl rfl (by unfold maxLen; omega), rowE_lit 2 (H 4 _ rfl) (by omega) rfl rfl rfl (by unfold maxLen; omega), trivial⟩ (ND [5, 2, 3, 4] (by decide)) (by unfold maxLen; omega)

  have r0 : Ints2E w.heap.size W (.slice (some ⟨w.heap.size + 8, 0, none⟩) 2 2) [[2, 2, 2], [2, 2, 2]] [w.heap.size + 8, w.heap.size + 6, w.heap.size + 7] :=
    many_lit (bss := [[w.heap.size + 6], [w.heap.size + 7]]) 2 (H 8 _ rfl) (by omega) rfl ⟨rowE_lit 3 (H 6 _ rfl) (by omega) rfl rfl rfl (by unfold maxLen; omega), rowE_lit 3 (H 7 _ rfl) (by omega) rfl rfl rfl (by unfold maxLen; omega), trivial⟩ (ND [8, 6, 7] (by decide)) (by unfold maxLen; omega)
  have r1 : Ints2E w.heap.size W (.slice (some ⟨w.heap.size + 11, 0, none⟩) 2 2) [[0, 1, 2], [0, 1, 2]] [w.heap.size + 11, w.heap.size + 9, w.heap.size + 10] :=
    many_lit (bss := [[w.heap.size + 9], [w.heap.size + 10]]) 2 (H 11 _ rfl) (by omega) rfl ⟨rowE_lit 3 (H 9 _ rfl) (by omega) rfl rfl rfl (by unfold maxLen; omega), rowE_lit 3 (H 10 _ rfl) (by omega) rfl rfl rfl (by unfold maxLen; omega), trivial⟩ (ND [11, 9, 10] (by decide)) (by unfold maxLen; omega)
  have r2 : Ints2E w.heap.size W (.slice (some ⟨w.heap.size + 14, 0, none⟩) 2 2) [[2, 2, 2], [2, 2, 2]] [w.heap.size + 14, w.heap.size + 12, w.heap.size + 13] :=
    many_lit (bss := [[w.heap.size + 12], [w.heap.size + 13]]) 2 (H 14 _ rfl) (by omega) rfl ⟨rowE_lit 3 (H 12 _ rfl) (by omega) rfl rfl rfl (by unfold maxLen; omega), rowE_lit 3 (H 13 _ rfl) (by omega) rfl rfl rfl (by unfold maxLen; omega), trivial⟩ (ND [14, 12, 13] (by decide)) (by unfold maxLen; omega)
  have h3 : Ints3E w.heap.size W (.slice (some ⟨w.heap.size + 15, 0, none⟩) 3 3) [[[2, 2, 2], [2, 2, 2]], [[0, 1, 2], [0, 1, 2]], [[2, 2, 2], [2, 2, 2]]] [w.heap.size + 15, w.heap.size + 8, w.heap.size + 6, w.heap.size + 7, w.heap.size + 11, w.heap.size + 9, w.heap.size + 10, w.heap.size + 14, w.heap.size + 12, w.heap.size + 13] :=
    many_lit (bss := [[w.heap.size + 8, w.heap.size + 6, w.heap.size + 7], [w.heap.size + 11, w.heap.size + 9, w.heap.size + 10], [w.heap.size + 14, w.heap.size + 12, w.heap.size + 13]]) 3 (H 15 _ rfl) (by omega) rfl ⟨r0, r1, r2, trivial⟩ (ND [15, 8, 6, 7, 11, 9, 10, 14, 12, 13] (by decide)) (by unfold maxLen; omega)
  have h4 : Ints2E w.heap.size W (.slice (some ⟨w.heap.size + 19, 0, none⟩) 3 3) [[0, 0], [1, 1], [2, 2]] [w.heap.size + 19, w.heap.size + 16, w.heap.size + 17, w.heap.size + 18] :=
    many_lit (bss := [[w.heap.size + 16], [w.heap.size + 17], [w.heap.size + 18]]) 3 (H 19 _ rfl) (by omega) rfl ⟨rowE_lit 2 (H 16 _ rfl) (by omega) rfl rfl rfl (by unfold maxLen; omega), rowE_lit 2 (H 17 _ rfl) (by omega) rfl rfl rfl (by unfold maxLen; omega), rowE_lit 2 (H 18 _ rfl) (by omega) rfl rfl rfl (by unfold maxLen; omega), trivial⟩ (ND [19, 16, 17, 18] (by decide)) (by unfold maxLen; omega)
  exact ⟨_, _, _, _, _, _, _, _, rfl, h1, h2, h3, h4, rfl, ND [1, 5, 2, 3, 4, 15, 8, 6, 7, 11, 9, 10, 14, 12, 13, 19, 16, 17, 18] (by decide)⟩

set_option maxHeartbeats 3200000 in
set_option maxRecDepth 100000 in
theorem spec_MatchedChecker (w : World) : Calls Try.prog 9 #[] w (CkPost matchedCk w) := by
  have key := matched_owns w _ rfl
  have hb := allocs_below (matchedLay w) w w w.heap.size (Below.refl _ _) (Nat.le_refl _)
  have Key := Lib.hid key
  have Hb := Lib.hid hb
  clear key hb
  go_enter Try.func9, Try.ntmps9
  go_wp2
  refine bodyPost_ret (v := .agg #[.int .i64 2, .int .i64 0, .slice (some ⟨w.heap.size + 1, 0, none⟩) 3 3, .slice (some ⟨w.heap.size + 5, 0, none⟩) 3 3, .slice (some ⟨w.heap.size + 15, 0, none⟩) 3 3, .slice (some ⟨w.heap.size + 19, 0, none⟩) 3 3]) (by simp [results, Try.results9, go_sem]) rfl ?_
  exact ⟨_, _, rfl, Key.out, Hb.out⟩

set_option maxHeartbeats 3200000 in
set_option maxRecDepth 100000 in
theorem impl_MatchedChecker (w : World) : Calls Try.prog 10 #[] w (CkPost matchedCk w) := by
  have key := matched_owns w _ rfl
  have hb := allocs_below (matchedLay w) w w w.heap.size (Below.refl _ _) (Nat.le_refl _)
  have Key := Lib.hid key
  have Hb := Lib.hid hb
  clear key hb
  go_enter Try.func10, Try.ntmps10
  go_wp2
  refine bodyPost_ret (v := .agg #[.int .i64 2, .int .i64 0, .slice (some ⟨w.heap.size + 1, 0, none⟩) 3 3, .slice (some ⟨w.heap.size + 5, 0, none⟩) 3 3, .slice (some ⟨w.heap.size + 15, 0, none⟩) 3 3, .slice (some ⟨w.heap.size + 19, 0, none⟩) 3 3]) (by simp [results, Try.results10, go_sem]) rfl ?_
  exact ⟨_, _, rfl, Key.out, Hb.out⟩
end Go.Proofs.Ytiigcphgilpfaac
