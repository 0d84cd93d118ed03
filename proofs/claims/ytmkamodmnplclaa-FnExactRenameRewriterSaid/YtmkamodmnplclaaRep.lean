/- slices.Repeat of the program at one move that writes, two or three times. -/
import Derived.Test.YtmkamodmnplclaaPlRM
import Derived.Test.YtmkamodmnplclaaMapO
import Derived.Laws.CopyOwn
import Derived.BigRegion
import Derived.Deep.RegionLaw
import Derived.Deep.DeepCutAuto
namespace Go.Proofs.Ytmkamodmnplclaa
open Go.RowKit
set_option linter.unusedVariables false

theorem run_copy_rowS {P : Program} (w : World) (dT sT ty elem : TypeId) (size g o dLen dCap : Nat) (a : Addr) (sLen sCap : Nat) (cur : Array Value) (t : TypeId) (cs : List Value)
    (hu : P.underlying dT = some (.slice elem)) (hs : (P.info? elem).map (·.size) = some size)
    (hg : w.heap[g]? = some (.cells cur t (0, 0))) (hn : cs.length = Nat.min sLen dLen * size)
    (hsrc : ∀ j v, cs[j]? = some v → w.cell? (a.add j) = some v) (hfit : o + cs.length ≤ cur.size) (h1 : ∀ v ∈ cs, v.oneCell' = true) :
    (Builtin.copy_ #[dT, sT] ty #[.slice (some ⟨g, o, none⟩) dLen dCap, .slice (some a) sLen sCap]).run P w =
      .ok (goInt (Nat.min sLen dLen)) (w.setRow g (cur.toList.take o ++ cs ++ cur.toList.drop (o + cs.length)).toArray) := by
  have hl := run_loadCells_list (P := P) w a cs hsrc
  have hst := run_storeCells_at P g o t cs 0 cur w hg (by simpa using hfit) h1
  cases hq : P.info? elem with
  | none => simp [hq] at hs
  | some i =>
    have hi : i.size = size := by simpa [hq] using hs
    simp [Builtin.copy_, run_underlying hu, Builtin.lenOf, Builtin.firstCells, sizeOf, typeInfo, hq, hi, ← hn, hl, hst]
theorem wpList_copyS {P : Program} {w : World} {ops : Array Oper} {rest : List Oper} {o : Oper} {a : Act} {Q : Exit → Act → World → Prop} (hgd : o.guard = none) (d s : Operand) (dT sT : TypeId)
    (ho : o.op = .call { callee := .builtin .copy, args := #[d, s], argTypes := #[dT, sT] }) (elem : TypeId) (hu : P.underlying dT = some (.slice elem)) (size : Nat) (hsz : (P.info? elem).map (·.size) = some size)
    (g off dLen dCap : Nat) (ad : Addr) (sLen sCap : Nat) (hd : a.eval d = .slice (some ⟨g, off, none⟩) dLen dCap) (hs : a.eval s = .slice (some ad) sLen sCap)
    (cur : Array Value) (t : TypeId) (hg : w.heap[g]? = some (.cells cur t (0, 0))) (cs : List Value) (hn : cs.length = Nat.min sLen dLen * size)
    (hsrc : ∀ j v, cs[j]? = some v → w.cell? (ad.add j) = some v) (hfit : off + cs.length ≤ cur.size) (h1 : ∀ v ∈ cs, v.oneCell' = true)
    (h : wpList P ops Q rest (a.put o.dst (goInt (Nat.min sLen dLen))) (w.setRow g (cur.toList.take off ++ cs ++ cur.toList.drop (off + cs.length)).toArray)) : wpList P ops Q (o :: rest) a w := by
  refine wpList_plain hgd fun K hK => ?_
  have hrun := run_copy_rowS (P := P) w dT sT o.type elem size g off dLen dCap ad sLen sCap cur t cs hu hsz hg hn hsrc hfit h1
  unfold Oper.wp
  simp [execOp, ho, resolve, invoke, builtin, hd, hs, hrun, Result.andThen]
  exact hK _ _ (by simpa using h)
theorem step_copyS {P : Program} {ops : Array Oper} {o : Oper} {a : Act} {w : World} {K : Act → World → Prop} {Q : Exit → Act → World → Prop} {E : Prop} (hgd : o.guard = none) (d s : Operand) (dT sT : TypeId)
    (ho : o.op = .call { callee := .builtin .copy, args := #[d, s], argTypes := #[dT, sT] }) (elem : TypeId) (hu : P.underlying dT = some (.slice elem)) (size : Nat) (hsz : (P.info? elem).map (·.size) = some size)
    (g off dLen dCap : Nat) (ad : Addr) (sLen sCap : Nat) (hd : a.eval d = .slice (some ⟨g, off, none⟩) dLen dCap) (hs : a.eval s = .slice (some ad) sLen sCap)
    (cur : Array Value) (t : TypeId) (hg : w.heap[g]? = some (.cells cur t (0, 0))) (cs : List Value) (hn : cs.length = Nat.min sLen dLen * size)
    (hsrc : ∀ j v, cs[j]? = some v → w.cell? (ad.add j) = some v) (hfit : off + cs.length ≤ cur.size) (h1 : ∀ v ∈ cs, v.oneCell' = true)
    (h : K (a.put o.dst (goInt (Nat.min sLen dLen))) (w.setRow g (cur.toList.take off ++ cs ++ cur.toList.drop (off + cs.length)).toArray)) :
    if Region.wanted o (yielded ops a.tmps) = true then Oper.wp P o a w K Q else E := by
  have hw : Region.wanted o (yielded ops a.tmps) = true := by simp [Region.wanted, hgd]
  rw [if_pos hw]
  have hrun := run_copy_rowS (P := P) w dT sT o.type elem size g off dLen dCap ad sLen sCap cur t cs hu hsz hg hn hsrc hfit h1
  unfold Oper.wp
  simp [execOp, ho, resolve, invoke, builtin, hd, hs, hrun, Result.andThen]
  rw [List.append_assoc] at h
  exact h

theorem info_om1 : (Try.prog.info? 78).map (·.size) = some 2 := by kernel_rfl
set_option maxHeartbeats 3200000 in
set_option maxRecDepth 100000 in
theorem impl_mul (c : Nat) (w : World) (hc : c = 2 ∨ c = 3) : Calls Try.prog 134 #[.int .u64 1, .int .u64 (c : Int)] w fun e w' => e = .returned (.tuple #[.int .u64 0, .int .u64 (c : Int)]) ∧ w = w' := by
  have h64 : Calls Try.prog 157 #[.int .u64 1, .int .u64 (c : Int)] w fun e w' => e = .returned (.tuple #[.int .u64 0, .int .u64 (c : Int)]) ∧ w = w' := by
    rcases hc with rfl | rfl <;>
    · go_enter Try.func157, Try.ntmps157
      go_wp2
      go_ret2
      exact ⟨rfl, rfl⟩
  have H := Lib.hid h64
  clear h64
  go_enter Try.func134, Try.ntmps134
  go_wp2_with fail
  refine H.out.mono ?_
  rintro e w' ⟨rfl, rfl⟩
  go_wp2
  go_ret2
  exact ⟨rfl, rfl⟩

/-- j moves, and zeros behind them. -/
def repA (c j : Nat) (x : Int × ByteArray) : List Value := (List.replicate j x ++ List.replicate (c - j) ((0 : Int), (⟨#[]⟩ : ByteArray))).flatMap fun x => [Value.int .i64 x.1, .string x.2]
theorem repA_len (c j : Nat) (x : Int × ByteArray) (h : j ≤ c) : (repA c j x).length = 2 * c := by
  unfold repA
  have : ∀ l : List (Int × ByteArray), (l.flatMap fun x => [Value.int .i64 x.1, Value.string x.2]).length = 2 * l.length := by
    intro l
    induction l with
    | nil => rfl
    | cons a l ih => simp [List.flatMap_cons, ih]; omega
  rw [this, List.length_append, List.length_replicate, List.length_replicate]; omega
theorem repA_step (c j : Nat) (x : Int × ByteArray) (hc : c = 2 ∨ c = 3) (h : j < c) :
    (repA c j x).take (j * 2) ++ [Value.int .i64 x.1, .string x.2] ++ (repA c j x).drop (j * 2 + 2) = repA c (j + 1) x := by
  rcases hc with rfl | rfl
  · rcases (by omega : j = 0 ∨ j = 1) with rfl | rfl <;> rfl
  · rcases (by omega : j = 0 ∨ j = 1 ∨ j = 2) with rfl | rfl | rfl <;> rfl
theorem made_rep (c : Nat) (x : Int × ByteArray) (hc : c = 2 ∨ c = 3) : madeCells #[.int .i64 0, .string ⟨#[]⟩] (c * 2) = (repA c 0 x).toArray := by
  apply Array.toList_inj.1
  rw [madeCells_om]
  rcases hc with rfl | rfl <;> rfl

set_option maxHeartbeats 3200000 in
set_option maxRecDepth 100000 in
theorem impl_repeat (c g : Nat) (x : Int × ByteArray) (w : World) (hc : c = 2 ∨ c = 3) (hx : Bx w g 78 #[.int .i64 x.1, .string x.2]) :
    Calls Try.prog 86 #[.slice (some ⟨g, 0, none⟩) 1 1, .int .i64 (c : Int)] w (NewPost OmE (List.replicate c x) w) := by
  obtain ⟨i0, hi, hz0, hz1, hz2⟩ := info_parts toInfo_om
  have hm := fun W => impl_mul c W hc
  have Hm := Lib.hid hm
  have HX := Lib.hid hx
  have hc3 : 2 ≤ c ∧ c ≤ 3 := by omega
  have Hc := Lib.hid hc
  clear hm hx hc
  go_enter Try.func86, Try.ntmps86
  go_wp2_with fail
  refine (Hm.out _).mono ?_
  rintro e w' ⟨rfl, rfl⟩
  have hmk := make_oms c (by omega)
  rw [made_rep c x Hc.out] at hmk
  have h9 : ¬ (9223372036854775807 < (c : Int)) := by omega
  go_upto_region 7 with fail
  obtain ⟨W, hW⟩ : ∃ W, W = w.alloc (.cells (repA c 0 x).toArray 78) := ⟨_, rfl⟩
  have hb1 : Bx W w.heap.size 78 (repA c 0 x).toArray := by rw [hW]; exact Bx.new _ _ _
  have hB1 : Below w.heap.size w W := by rw [hW]; exact (Below.refl _ _).alloc (Nat.le_refl _) _
  have hx1 := HX.out.later hB1
  have hlt := HX.out.lt
  rw [← hW]
  clear hW hmk
  have HW := Lib.hid (And.intro hb1 (And.intro hB1 hx1))
  have hsrc : ∀ j v, [Value.int .i64 x.1, .string x.2][j]? = some v → W.cell? ((⟨g, 0, none⟩ : Addr).add j) = some v := World.news_of_block hx1
  have hl0 := repA_len c 0 x (Nat.zero_le _)
  have h2 := repA_step c 0 x Hc.out (by omega)
  have hm1 : Nat.min 1 c = 1 := by simp [Nat.min_def]; omega
  have hcp := run_copy_rowS (P := Try.prog) W 79 79 3 78 2 w.heap.size 0 c c ⟨g, 0, none⟩ 1 1 (repA c 0 x).toArray 78 [.int .i64 x.1, .string x.2] Try.underlying79 info_om1 hb1 (by rw [hm1]; rfl) hsrc (by simp [hl0]; omega) one_om
  rw [hm1] at hcp
  have e2 : (List.take 0 (repA c 0 x).toArray.toList ++ [Value.int IntKind.i64 x.fst, Value.string x.snd] ++ List.drop (0 + [Value.int IntKind.i64 x.fst, Value.string x.snd].length) (repA c 0 x).toArray.toList).toArray = (repA c 1 x).toArray := by rw [← h2]; rfl
  rw [e2] at hcp
  obtain ⟨W1, hW1⟩ : ∃ W1, W1 = W.setRow w.heap.size (repA c 1 x).toArray := ⟨_, rfl⟩
  rw [← hW1] at hcp
  have HW1 := Lib.hid (show Bx W1 w.heap.size 78 (repA c 1 x).toArray ∧ Below w.heap.size w W1 by
    rw [hW1]
    exact ⟨setRow_heap W w.heap.size _ _ _ _ hb1, below_setRow hB1 (Nat.le_refl _) _⟩)
  clear hb1 hB1 hx1 hW1 e2 h2 hsrc hl0
  go_upto_region 8 with fail
  go_loopw [8] (fun i wr => ∃ j : Nat, 1 ≤ j ∧ j ≤ c ∧ i = .int .i64 j ∧ Bx wr w.heap.size 78 (repA c j x).toArray ∧ Below w.heap.size w wr) (fun i _ => c - (intOf i).toNat)
  case atStart => exact ⟨1, by omega, by omega, rfl, HW1.out⟩
  case round =>
    obtain ⟨j, hj1, hjc, rfl, hb, hB⟩ := hrel
    by_cases hlt2 : j < c
    · have hl := repA_len c j x hjc
      have hst := repA_step c j x Hc.out hlt2
      have hmn : Nat.min j (c - j) = 1 := by
        rcases Hc.out with rfl | rfl
        · rw [show j = 1 by omega]; rfl
        · rcases (by omega : j = 1 ∨ j = 2) with rfl | rfl <;> rfl
      have hh : (repA c j x)[0]? = some (.int .i64 x.1) ∧ (repA c j x)[1]? = some (.string x.2) := by
        obtain ⟨q, rfl⟩ := Nat.exists_eq_add_of_le' hj1
        exact ⟨by simp [repA, List.replicate_succ], by simp [repA, List.replicate_succ]⟩
      have hsrc : ∀ i v, [Value.int .i64 x.1, .string x.2][i]? = some v → wr.cell? ((⟨w.heap.size, 0, none⟩ : Addr).add i) = some v := by
        intro i v hv
        have hadd : (⟨w.heap.size, 0, none⟩ : Addr).add i = ⟨w.heap.size, i, none⟩ := by unfold Addr.add; split <;> simp_all
        rw [hadd]
        have hi2 := (List.getElem?_eq_some_iff.1 hv).1
        simp at hi2
        rcases (by omega : i = 0 ∨ i = 1) with rfl | rfl
        · simp at hv; subst hv; exact hb.cell 0 _ (by simpa using hh.1)
        · simp at hv; subst hv; exact hb.cell 1 _ (by simpa using hh.2)
      have hcp := run_copy_rowS (P := Try.prog) wr.drew 79 79 3 78 2 w.heap.size (j * 2) (c - j) (c - j) ⟨w.heap.size, 0, none⟩ j c (repA c j x).toArray 78 [.int .i64 x.1, .string x.2] Try.underlying79 info_om1 hb (by rw [hmn]; rfl) hsrc (by simp [hl]; omega) one_om
      rw [hmn] at hcp
      have e2 : (List.take (j * 2) (repA c j x).toArray.toList ++ [Value.int IntKind.i64 x.fst, Value.string x.snd] ++ List.drop (j * 2 + [Value.int IntKind.i64 x.fst, Value.string x.snd].length) (repA c j x).toArray.toList).toArray = (repA c (j + 1) x).toArray := by rw [← hst]; rfl
      rw [e2] at hcp
      obtain ⟨W3, hW3⟩ : ∃ W3, W3 = wr.drew.setRow w.heap.size (repA c (j + 1) x).toArray := ⟨_, rfl⟩
      rw [← hW3] at hcp
      have HW3 := Lib.hid (show Bx W3 w.heap.size 78 (repA c (j + 1) x).toArray ∧ Below w.heap.size w W3 by
        rw [hW3]
        exact ⟨setRow_heap wr.drew w.heap.size _ _ _ _ hb, below_setRow (below_drewN hB 1) (Nat.le_refl _) _⟩)
      clear hb hB hW3 e2 hst hsrc hl hh
      go_wp2_with fail
      go_region
      go_wp2
      go_roundw
      case rel => exact ⟨j + 1, by omega, by omega, by go_num, HW3.out⟩
      case measure => simp [intOf]; omega
    · have HB := Lib.hid (show Bx wr w.heap.size 78 (repA c c x).toArray ∧ Below w.heap.size w wr by rw [show c = j by omega]; exact ⟨by rw [← show c = j by omega] at hb ⊢; exact hb, hB⟩)
      have hlc := repA_len c c x (Nat.le_refl _)
      clear hb hB
      go_wp2
      go_ret
      refine ⟨_, [w.heap.size], rfl, ?_, HB.out.2⟩
      exact rowE_lit c HB.out.1 (Nat.le_refl _) (by simp) (by simp [repA]) (by simp [hlc]; omega) (by unfold maxLen; omega)
end Go.Proofs.Ytmkamodmnplclaa
