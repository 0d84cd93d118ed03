import Derived.Test.YtblgjedjljfmcaaGreatDoorMFnExactUndoTreeEdit26
import Derived.Test.YtblgjedjljfmcaaGreatDoorMFnExactUndoTreeEdit27
import Derived.Test.YtblgjedjljfmcaaGreatDoorMFnExactUndoTreeEdit7
import Derived.Test.YtblgjedjljfmcaaGreatDoorMFnExactUndoTreeEdit24
import Derived.Test.YtblgjedjljfmcaaGreatDoorMFnExactUndoTreeEdit8
import Derived.Outline
import Derived.RangeFuncCalls
import Derived.Shelf.RegionOpen
/- ParentsOf and ChildrenOf, of the model and of the program. -/
namespace Go.Proofs.YtblgjedjljfmcaaGreatDoor
open Go.RowKit Go.Shelf

attribute [local go_sem] Oper.semAt_some
end Go.Proofs.YtblgjedjljfmcaaGreatDoor
/- FactorsOf of the program. -/
namespace Go.Proofs.YtblgjedjljfmcaaGreatDoor
open Go.RowKit Go.Shelf
set_option linter.unusedVariables false

attribute [local go_sem] Oper.semAt_some

theorem impl_FactorsOf_no (s : ByteArray) (w : World) (hs : s.size ≤ 1048576) (h : ¬ IsW s) :
    Calls Tryz.prog 145 #[.string s] w (TxtsPost 0 [] 1 w) := by
  have H := Lib.hid h
  clear h
  have hb0 : Below w.heap.size w (w.alloc (.cells #[.string s] 9)) := (Below.refl _ _).alloc (Nat.le_refl _) _
  go_enter Tryz.func145, Tryz.ntmps145
  go_wp2_with (go_at_call 50; refine (impl_read_no _ _ hs H.out).mono ?_; rintro e w1 ⟨rfl, hb⟩)
  go_ret2
  have hb1 := hb0.trans (hb.mono (by simp))
  exact ⟨_, _, rfl, World.ownsRow_nil _ _ _ _, hb1.alloc hb1.size _⟩
theorem impl_FactorsOf_state (s : ByteArray) (w : World) (h : IsW s) (hm : mB s.data.toList = false) :
    Calls Tryz.prog 145 #[.string s] w (TxtsPost 0 [] 4 w) := by
  have hp := fun w => impl_read_yes s w h.1 h.2
  have hmr := fun (w1 : World) (M : Nat) hsy hps (w2 : World) hb => matched_read' (s := s) (w := w.alloc (.cells #[.string s] 9)) (w1 := w1) (M := M) h hsy hps (w2 := w2) hb
  simp only [hm] at hmr
  have Hp := Lib.hid hp
  have Hmr := Lib.hid hmr
  have hb0 : Below w.heap.size w (w.alloc (.cells #[.string s] 9)) := (Below.refl _ _).alloc (Nat.le_refl _) _
  clear h hp hmr hm
  go_enter Tryz.func145, Tryz.ntmps145
  go_wp2_with fail
  refine (Hp.out _).mono ?_
  rintro e w1 ⟨M, rfl, hsy, hps, hb⟩
  have hbx : Below w1.heap.size w1 (w1.alloc (.cells #[.slice (some ⟨w.heap.size + 1 + 1 + 1, 0, none⟩) s.size s.size, .slice (some ⟨M, 0, none⟩) s.size s.size] 94)) := (Below.refl _ _).alloc (Nat.le_refl _) _
  have hq := Hmr.out _ _ hsy hps _ hbx
  simp only [World.size_alloc] at hq
  have HQ := Lib.hid hq
  have HB := Lib.hid ((hb0.trans (hb.mono (by simp))).trans (hbx.mono (hb0.trans (hb.mono (by simp))).size))
  clear hq hsy hps hb hb0 hbx
  go_wp2_with fail
  refine HQ.out.mono ?_
  rintro e w2 ⟨rfl, hb2⟩
  go_wp2
  go_ret2
  have hb3 := HB.out.trans (hb2.mono HB.out.size)
  exact ⟨_, _, rfl, World.ownsRow_nil _ _ _ _, hb3⟩

theorem ret_kind {y : Int} (h0 : 0 ≤ y) (h5 : y ≤ 5) : retS y = decide (kindS y = 1) := by
  obtain rfl | rfl | rfl | rfl | rfl | rfl : y = 0 ∨ y = 1 ∨ y = 2 ∨ y = 3 ∨ y = 4 ∨ y = 5 := by omega
  all_goals rfl
/-- The factors that begin at the places. -/
def facV {N : Nat} (s : ByteArray) (ks : List Nat) (pre : List (Fin N)) : List Value := (pre.filter fun x => isFac ks x.val).map fun x => .string (s.extract x.val (facEnd ks x.val))
theorem facV_all (s : ByteArray) (N : Nat) : facV s (ksOf s.data.toList) (upTo N N) = strsV (facW s N) := by
  rw [facV, strsV, facW, facs, ← upTo_val N N (Nat.le_refl _), List.map_map, List.filter_map, List.map_map]; rfl
theorem facV_len {N : Nat} (s : ByteArray) (ks : List Nat) (pre : List (Fin N)) : (facV s ks pre).length ≤ pre.length := by
  rw [facV, List.length_map]; exact List.length_filter_le _ _

/-- append in a drawn region, in a round. -/
theorem step_append_at_in {F : Fence} {n : Nat} {P : Program} (w : World) {ops : Array Oper} {o : Oper} {a : Act} {K : Act → World → Prop} {Q : Exit → Act → World → Prop} {E : Prop}
    (hgd : o.guard = none) (s x : Operand) (t : TypeId) (hop : o.op = Op.call { callee := Callee.builtin Builtin.append, args := #[s, x], argTypes := #[t, t] })
    (base : Nat) (e : TypeId) (i : TypeInfo) (z : Value) (size bytes : Nat) (h1 : P.underlying t = some (.slice e)) (h2 : P.info? e = some i) (h3 : i.zero = some z) (h4 : i.size = size) (h5 : i.bytes = bytes) (h6 : z.cells.size = size) (h7 : 0 < size)
    (v : Value) (k : Nat) (xs : List Value) (hs : a.eval s = v) (hown : w.ownsRow base e size v k xs) (ad : Addr) (m c : Nat) (news : List Value) (hx : a.eval x = .slice (some ad) m c) (hn : news.length = m * size)
    (hc : ∀ j u, news[j]? = some u → w.cell? (ad.add j) = some u) (h1c : ∀ u ∈ news, u.oneCell' = true) (b1 : k + m ≤ maxLen) (b2 : (k + m) * bytes ≤ 140737488355328) (b3 : base ≤ w.heap.size)
    (hK : ∀ v' w', w'.ownsRow base e size v' (k + m) (xs ++ news) → w.grownBy w' v.ownBlock → (v'.ownBlock = v.ownBlock ∨ v'.ownBlock = some w.heap.size) → K (a.put o.dst v') w') :
    if Region.wanted o (yielded ops a.tmps) = true then Oper.wpIn F n P o a w K Q else E := by
  have hw : Region.wanted o (yielded ops a.tmps) = true := by simp [Region.wanted, hgd]
  rw [if_pos hw]
  obtain ⟨v', w', hrun, r1, r2, _, r4⟩ := run_append_own_at (P := P) w base t o.type e i z size bytes h1 h2 h3 h4 h5 h6 h7 v k xs hown ad m c news hn hc h1c b1 b2 b3
  unfold Oper.wpIn
  refine ⟨by simp [Oper.about, hop, resolve, Target.leads, Sem.run_pure], ?_⟩
  rw [Oper.semAt_plain F _ _ (by rw [hop]; intro c hc'; cases hc')]
  simp [execOp, hop, resolve, invoke, builtin, hs, hx, hrun, Result.andThen]
  exact hK _ _ r1 r2 r4
theorem facEnd_le {ks : List Nat} {x : Nat} (hnp : ∀ k : Nat, (prts ks)[k]? ≠ some (-2)) (hx : x < ks.length) (h1 : ks[x]? ≠ some 1) {p : Int} (hp : (prts ks)[x]? = some p) :
    ∃ q : Nat, max (x : Int) p = (q : Int) ∧ q < ks.length ∧ x ≤ q ∧ facEnd ks x = q + 1 := by
  obtain ⟨y, hy⟩ : ∃ y, ks[x]? = some y := ⟨_, List.getElem?_eq_getElem hx⟩
  have hf : facEnd ks x = (max (x : Int) p).toNat + 1 := by rw [facEnd, hp]
  by_cases e0 : y = 0
  · subst e0
    rcases prts_at_call ks x hy with h | ⟨q, a1, a2, a3⟩
    · exact absurd h (hnp x)
    · obtain rfl : p = (q : Int) := Option.some.inj (hp.symm.trans a3)
      exact ⟨q, by omega, a2, by omega, by rw [hf]; omega⟩
  · have e1 : y ≠ 1 := fun e => h1 (by rw [hy, e])
    obtain rfl : p = -1 := Option.some.inj (hp.symm.trans (prts_at_inner ks x y hy e0 e1))
    exact ⟨x, by omega, hx, Nat.le_refl _, by rw [hf]; omega⟩

set_option maxRecDepth 100000 in
set_option maxHeartbeats 64000000 in
theorem impl_FactorsOf_yes (s : ByteArray) (w : World) (h : IsW s) (hm : mB s.data.toList = true) :
    Calls Tryz.prog 145 #[.string s] w (TxtsPost (facW s s.size).length (facW s s.size) 0 w) := by
  have hp := fun w => impl_read_yes s w h.1 h.2
  have hmr := fun (w1 : World) (M : Nat) hsy hps (w2 : World) hb => matched_read' (s := s) (w := w.alloc (.cells #[.string s] 9)) (w1 := w1) (M := M) h hsy hps (w2 := w2) hb
  simp only [hm] at hmr
  have h60 := h.1
  have hall := h.2
  have hnp : ∀ k : Nat, (prts (ksOf s.data.toList))[k]? ≠ some (-2) := matched_none h.2 rfl (by simpa [mB] using hm)
  obtain ⟨i0, hi, hz0, hz1, hz2⟩ := info_parts info_str
  obtain ⟨l, hl⟩ : ∃ l, l = s.data.toList := ⟨_, rfl⟩
  have hlen : l.length = s.size := by rw [hl]; simp
  have hfl : facV s (ksOf l) (upTo s.size s.size) = strsV (facW s s.size) := by rw [hl]; exact facV_all s s.size
  simp only [← hl] at hp hall hmr hnp
  have Hp := Lib.hid hp
  have Hmr := Lib.hid hmr
  have Hlen := Lib.hid hlen
  have Hall := Lib.hid hall
  have Hnp := Lib.hid hnp
  have Hfl := Lib.hid hfl
  clear h hp hl hlen hall hmr hm hnp hfl
  refine (callsIn_wide (n := 4)).1 ?_
  have hb00 : Below w.heap.size w (w.alloc (.cells #[.string s] 9)) := (Below.refl _ _).alloc (Nat.le_refl _) _
  refine callsIn_of_wp_marks Tryz.func145 rfl trivial ?_ rfl
  simp only [Tryz.ntmps145, List.size_toArray, List.length_cons, List.length_nil, Nat.reduceAdd, Nat.reduceSub, Array.replicate_succ, Array.replicate_zero, List.push_toArray, List.append_toArray, List.nil_append, List.cons_append]
  gi_wp2_with (first
    | (refine ⟨trivial, ?_⟩; gi_at_call 50; refine (callsIn_wide.2 (Hp.out _)).mono ?_; rintro e w1 ⟨M, rfl, hsy, hps, hb⟩; have hic0 := (hb.cell (p := ⟨w.heap.size, 0, none⟩) (by simp)).trans (show (w.alloc (.cells #[.string s] 9)).cell? ⟨w.heap.size, 0, none⟩ = some (.string s) by simp [go_sem]); have hlt0 : w.heap.size < w1.heap.size := by (have := hb.size; simp at this; omega))
    | (refine ⟨trivial, ?_⟩; gi_at_call 92
       have hq := Hmr.out _ _ hsy hps _ ((Below.refl _ w1).alloc (Nat.le_refl _) (.cells #[.slice (some ⟨w.heap.size + 1 + 1 + 1, 0, none⟩) s.size s.size, .slice (some ⟨M, 0, none⟩) s.size s.size] 94))
       simp only [World.size_alloc] at hq
       refine (callsIn_wide.2 hq).mono ?_
       rintro e w2 ⟨rfl, hb2⟩
       have hx2 := (Bx.new w1 94 #[.slice (some ⟨w.heap.size + 1 + 1 + 1, 0, none⟩) s.size s.size, .slice (some ⟨M, 0, none⟩) s.size s.size]).later hb2
       have n0 := hx2.cell 0 _ rfl
       have n1 := hx2.cell 1 _ rfl
       have hl2 : w1.heap.size < w2.heap.size := hx2.lt
       have hb12 : Below w1.heap.size w1 w2 := ((Below.refl _ w1).alloc (Nat.le_refl _) _).trans (hb2.mono (by simp))
       have hic2 := (hb12.cell (p := ⟨w.heap.size, 0, none⟩) hlt0).trans hic0)
    | (refine ⟨trivial, ?_⟩; gi_at_call 147; refine (places_in Fence.wide _ trivial rfl _ _ _).mono ?_; rintro e w' ⟨rfl, rfl⟩))
  have hbw : Below w.heap.size w w1 := hb00.trans (hb.mono (by simp))
  simp only [World.size_alloc] at hsy hps
  have hb0 : Below w2.heap.size w2 ((w2.alloc (.cells #[.slice none 0 0] 37)).alloc (.cells #[.slice (some ⟨w.heap.size + 1 + 1 + 1, 0, none⟩) s.size s.size, .slice (some ⟨M, 0, none⟩) s.size s.size] 94)) := ((Below.refl _ w2).alloc (Nat.le_refl _) _).alloc (by simp) _
  have hb1 : Below w1.heap.size w1 ((w2.alloc (.cells #[.slice none 0 0] 37)).alloc (.cells #[.slice (some ⟨w.heap.size + 1 + 1 + 1, 0, none⟩) s.size s.size, .slice (some ⟨M, 0, none⟩) s.size s.size] 94)) := hb12.trans (hb0.mono hb12.size)
  have hsyl : (symL l).length = s.size := by rw [symL_len, Hlen.out]
  have hA : NestAt ((w2.alloc (.cells #[.slice none 0 0] 37)).alloc (.cells #[.slice (some ⟨w.heap.size + 1 + 1 + 1, 0, none⟩) s.size s.size, .slice (some ⟨M, 0, none⟩) s.size s.size] 94)) (w2.heap.size + 1) (w.heap.size + 1 + 1 + 1) M s.size s.size s.size (symL l) (prts (ksOf l)) :=
    ⟨by simp [go_sem], by simp [go_sem], syms_cell (row_below hsy hb1), nums_cell (row_below hps hb1)⟩
  have hc0 : Coll w2.heap.size w2.heap.size (w2.heap.size + 1) 37 9 [] (fun _ => False) w2 ((w2.alloc (.cells #[.slice none 0 0] 37)).alloc (.cells #[.slice (some ⟨w.heap.size + 1 + 1 + 1, 0, none⟩) s.size s.size, .slice (some ⟨M, 0, none⟩) s.size s.size] 94)) := by
    have hbx := (Boxed.new w2 37 (.slice none 0 0)).alloc (.cells #[.slice (some ⟨w.heap.size + 1 + 1 + 1, 0, none⟩) s.size s.size, .slice (some ⟨M, 0, none⟩) s.size s.size] 94)
    exact ⟨⟨_, hbx, World.ownsRow_nil _ _ _ _, fun g hg => by cases hg⟩, fun h => h, fun b h => h.elim, by simp, hb0⟩
  have hgs1 : w.heap.size + 1 + 1 + 1 < w1.heap.size := (hsy.lt _ rfl).2
  have hM1 : M < w1.heap.size := (hps.lt _ rfl).2
  have hsc := fun (W : World) (hW : Below w2.heap.size w2 W) => syms_cell (row_below (row_below hsy hb12) hW)
  have hpc := fun (W : World) (hW : Below w2.heap.size w2 W) => nums_cell (row_below (row_below hps hb12) hW)
  have Hsc := Lib.hid hsc
  have Hpc := Lib.hid hpc
  have Hn := Lib.hid (And.intro n0 n1)
  clear hsc hpc n0 n1 hq hx2
  refine wpIn_rangeFunc_ownB rfl (by omega) (gf := 148) (lb := #[.pointer (some ⟨w2.heap.size + 1, 0, none⟩)]) rfl trivial (enters_of Tryz.func148 (by kernel_rfl) rfl)
    (plc_stops _ (w2.heap.size + 1) w2.heap.size (w.heap.size + 1 + 1 + 1) M s.size s.size s.size (symL l) (prts (ksOf l)) (ksOf l) (by omega) h60 hsyl (symL_kinds l).symm rfl (by omega) (by omega) (symL_ok Hall.out) _ (by simp; omega) (by simp) hA) kpB_t (kpB_b (by simp; omega) (by simp)) (Below.refl _ _) (fun _ => rfl)
    (fun pre B W => Coll w2.heap.size w2.heap.size (w2.heap.size + 1) 37 9 (facV s (ksOf l) pre) B w2 W)
    (Coll.own (facV s (ksOf l)) (by simp; omega) (Nat.le_refl _))
    hc0
    (fun x => { tmps := #[.string s, .pointer (some ⟨w.heap.size, 0, none⟩), .slice none 0 0, .int .i64 0, .pointer (some ⟨w1.heap.size, 0, none⟩), .bool true, .pointer (some ⟨w2.heap.size, 0, none⟩), .int .i64 (x.val : Int), .int .i64 (parI (ksOf l) x.val), undef, .tuple #[.agg #[.slice (some ⟨w.heap.size + 1 + 1 + 1, 0, none⟩) s.size s.size, .slice (some ⟨M, 0, none⟩) s.size s.size], .bool true], .string s, .tuple #[.agg #[.slice (some ⟨w.heap.size + 1 + 1 + 1, 0, none⟩) s.size s.size, .slice (some ⟨M, 0, none⟩) s.size s.size], .bool true], .agg #[.slice (some ⟨w.heap.size + 1 + 1 + 1, 0, none⟩) s.size s.size, .slice (some ⟨M, 0, none⟩) s.size s.size], .bool true, .bool true, .bool false, .agg #[.slice (some ⟨w.heap.size + 1 + 1 + 1, 0, none⟩) s.size s.size, .slice (some ⟨M, 0, none⟩) s.size s.size], .bool true, .bool false, .agg #[.slice (some ⟨w.heap.size + 1 + 1 + 1, 0, none⟩) s.size s.size, .slice (some ⟨M, 0, none⟩) s.size s.size], .func (.func 148) #[] #[.pointer (some ⟨w2.heap.size + 1, 0, none⟩)], .int .i64 (x.val : Int), .int .i64 (parI (ksOf l) x.val), undef, undef, undef, undef, undef, undef, undef, undef, undef, undef, undef, undef, undef, undef, undef, undef, undef, undef, undef, undef, undef, undef, undef, undef, undef, undef], defers := [] }) ?assign ?body ?done
  case assign =>
    intro l x W K hK
    gi_wp2
    exact hK
  case body =>
    rintro l' pre x B W hC hlt
    obtain ⟨v, hv, hr, ho⟩ := hC.val
    have hv0 := hv.cell
    have hsz := hC.below.size
    have hic : W.cell? ⟨w.heap.size, 0, none⟩ = some (.string s) := (hC.below.cell (p := ⟨w.heap.size, 0, none⟩) (by show w.heap.size < w2.heap.size; omega)).trans hic2
    have hn0 : W.cell? ⟨w1.heap.size, 0, none⟩ = some (.slice (some ⟨w.heap.size + 1 + 1 + 1, 0, none⟩) s.size s.size) := (hC.below.cell (p := ⟨w1.heap.size, 0, none⟩) hl2).trans Hn.out.1
    have hn1 : W.cell? ⟨w1.heap.size, 1, none⟩ = some (.slice (some ⟨M, 0, none⟩) s.size s.size) := (hC.below.cell (p := ⟨w1.heap.size, 1, none⟩) hl2).trans Hn.out.2
    have hk : (facV s (ksOf l) pre).length ≤ 60 := by have := facV_len s (ksOf l) pre; omega
    have hxl := x.isLt
    have hxi : (x.val : Int) < (s.size : Int) := by omega
    obtain ⟨b, hlx⟩ : ∃ b, l[x.val]? = some b := ⟨_, List.getElem?_eq_getElem (by rw [Hlen.out]; exact hxl)⟩
    have hkx := ksOf_at l x.val b hlx
    have hsx : (symL l)[x.val]? = some (symNo (b.toNat : Int)) := by rw [symL, List.getElem?_map, hlx]; rfl
    have hy := symL_ok Hall.out _ (List.mem_of_getElem? hsx)
    have hcs := Hsc.out W hC.below _ _ hsx
    obtain ⟨p, hp⟩ : ∃ p, (prts (ksOf l))[x.val]? = some p := ⟨_, List.getElem?_eq_getElem (by rw [prts_len, ksOf_len, Hlen.out]; exact hxl)⟩
    have hcp := Hpc.out W hC.below _ _ hp
    have hret := ret_kind hy.1 hy.2
    generalize symNo (b.toNat : Int) = y at *
    by_cases hpi : parI (ksOf l) x.val = -1
    case neg =>
      have e : facV s (ksOf l) (pre ++ [x]) = facV s (ksOf l) pre := by simp [facV, List.filter_append, isFac, hpi]
      have E := Lib.hid e
      have d1 : (parI (ksOf l) x.val == -1) = false := by simpa using hpi
      have d2 : decide (parI (ksOf l) x.val = -1) = false := decide_eq_false hpi
      have d3 : (parI (ksOf l) x.val != -1) = true := by simpa using hpi
      clear e
      generalize parI (ksOf l) x.val = pr at *
      gi_wp2
      refine ⟨trivial, ?_⟩
      gi_wp2
      exact ⟨(KeepsOthers.refl _).from _, ⟨Below.refl _ _, rfl⟩, SameOn.refl _ _, by show Coll _ _ _ _ _ (facV s (ksOf l) (pre ++ [x])) B w2 _; rw [E.out]; exact hC⟩
    cases hrr : retS y with
    | true =>
      rw [hrr] at hret
      have hk1 : (ksOf l)[x.val]? = some 1 := by rw [hkx, of_decide_eq_true hret.symm]
      have e : facV s (ksOf l) (pre ++ [x]) = facV s (ksOf l) pre := by simp [facV, List.filter_append, isFac, hk1]
      have E := Lib.hid e
      have HR := Lib.hid hrr
      rw [hpi]
      clear e hrr hret hkx hk1
      gi_wp2_with fail
      refine ⟨trivial, (CallsIn.inRound l' (callsIn_wide.2 (impl_isReturn _ _ hy))).mono ?_⟩
      rintro e w' ⟨rfl, rfl⟩
      rw [HR.out]
      gi_wp2
      exact ⟨(KeepsOthers.refl _).from _, ⟨Below.refl _ _, rfl⟩, SameOn.refl _ _, by show Coll _ _ _ _ _ (facV s (ksOf l) (pre ++ [x])) B w2 _; rw [E.out]; exact hC⟩
    | false =>
      rw [hrr] at hret
      have hk1 : (ksOf l)[x.val]? ≠ some 1 := by rw [hkx]; intro h; exact (of_decide_eq_false hret.symm) (Option.some.inj h)
      have hfac : isFac (ksOf l) x.val = true := decide_eq_true ⟨hpi, hk1⟩
      have e : facV s (ksOf l) (pre ++ [x]) = facV s (ksOf l) pre ++ [.string (s.extract x.val (facEnd (ksOf l) x.val))] := by simp [facV, List.filter_append, hfac]
      have E := Lib.hid e
      have HR := Lib.hid hrr
      rw [hpi]
      clear e hrr hret hfac
      have hmx : Tryz.prog.follows .mixedOrders = true := by kernel_rfl
      gi_wp2_with fail
      refine ⟨trivial, (CallsIn.inRound l' (callsIn_wide.2 (impl_isReturn _ _ hy))).mono ?_⟩
      rintro e w' ⟨rfl, rfl⟩
      rw [HR.out]
      gi_wp2_with fail
      -- region 12 begins
      obtain ⟨q, hq, hql, hxq, hfe⟩ := facEnd_le Hnp.out (show x.val < (ksOf l).length by rw [ksOf_len, Hlen.out]; exact hxl) hk1 hp
      rw [ksOf_len, Hlen.out] at hql
      rw [hfe] at E
      rw [hq]
      have hsl := fac_slice s x.val (q + 1) ((q : Int) + 1) (by omega) (by omega) (by omega)
      have hwr : IntKind.i64.wrap ((q : Int) + 1) = (q : Int) + 1 := by
        have hf : ∀ n : Fin 61, IntKind.i64.wrap ((n.val : Int) + 1) = (n.val : Int) + 1 := by decide
        exact hf ⟨q, by omega⟩
      have hr1 : W.drew.ownsRow w2.heap.size 9 1 v (facV s (ksOf l) pre).length (facV s (ksOf l) pre) := hr
      have hCd : Coll w2.heap.size w2.heap.size (w2.heap.size + 1) 37 9 (facV s (ksOf l) pre) B w2 W.drew := ⟨hC.val, hC.box, hC.bnd, hC.lt, hC.below.drew⟩
      have hvd : Boxed W.drew w2.heap.size 37 v := hv
      have hvc : W.drew.cell? ⟨w2.heap.size, 0, none⟩ = some v := hv0
      have hva : ((W.alloc (.cells #[.string (s.extract x.val (q + 1))] 9)).drew).cell? ⟨w2.heap.size, 0, none⟩ = some v := (show (W.alloc (.cells #[.string (s.extract x.val (q + 1))] 9)).cell? ⟨w2.heap.size, 0, none⟩ = some v by rw [World.cell?_alloc_lt _ _ ⟨w2.heap.size, 0, none⟩ hv.lt]; exact hv0)
      have hid : W.drew.cell? ⟨w.heap.size, 0, none⟩ = some (.string s) := hic
      have hW0 : W.drew.heap.size = W.heap.size := rfl
      have hAP := Lib.hid (And.intro hr1 (And.intro hCd hvd))
      have HO := Lib.hid ho
      clear hq hfe hr hv hC hp hcp hcs hlx hkx hsx ho hr1 hCd hvd hk1 hpi
      refine wpIn_region_any hmx ?_
      try (change wpAnyIn _ _ _ _ _ _ _ _ _ (World.drew _))
      refine wpAnyIn_ready (rs := [0, 1, 2, 3]) (by kernel_rfl) (by simp) ?_
      refine AllReadyIn.cons rfl (fun K hK => ?_) ?_
      · go_simp
        refine hK _ _ ?_
        clear hK K
        refine wpAnyIn_ready (rs := [1, 2, 3]) (by kernel_rfl) (by simp) ?_
        refine AllReadyIn.cons rfl (fun K hK => ?_) ?_
        · go_simp
          refine hK _ _ ?_
          clear hK K
          refine wpAnyIn_ready (rs := [2, 3]) (by kernel_rfl) (by simp) ?_
          refine AllReadyIn.cons rfl (fun K hK => ?_) ?_
          · go_simp
            refine hK _ _ ?_
            clear hK K
            refine wpAnyIn_ready (rs := [3]) (by kernel_rfl) (by simp) ?_
            refine AllReadyIn.cons rfl (fun K hK => ?_) ?_
            · go_simp
              refine hK _ _ ?_
              clear hK K
              refine wpAnyIn_ready (rs := [4]) (by kernel_rfl) (by simp) ?_
              refine AllReadyIn.cons rfl (fun K hK => ?_) ?_
              · go_simp
                refine hK _ _ ?_
                clear hK K
                refine wpAnyIn_ready (rs := [5]) (by kernel_rfl) (by simp) ?_
                refine AllReadyIn.cons rfl (fun K hK => ?_) ?_
                · go_simp
                  refine hK _ _ ?_
                  clear hK K
                  refine wpAnyIn_ready (rs := [6]) (by kernel_rfl) (by simp) ?_
                  refine AllReadyIn.cons rfl (fun K hK => ?_) ?_
                  · go_simp
                    refine hK _ _ ?_
                    clear hK K
                    refine wpAnyIn_ready (rs := [7]) (by kernel_rfl) (by simp) ?_
                    refine AllReadyIn.cons rfl (fun K hK => ?_) ?_
                    · refine step_append_at_in _ rfl (.tmp 41) (.tmp 47) 37 rfl w2.heap.size 9 i0 (.string ⟨#[]⟩) 1 16 Tryz.underlying37 hi hz0 hz1 hz2 rfl (by decide) v _ _ (by simp [Act.eval]) (hAP.out.1.alloc _) ⟨W.heap.size, 0, none⟩ 1 1 [.string (s.extract x.val (q + 1))] (by simp [Act.eval]) rfl (cell_one_new _ _ _) (by simp [Value.oneCell']) (by unfold maxLen; omega) (by omega) (by simp; omega) ?_
                      intro v' w3 hown hg hat
                      have hCC := hAP.out.2.1.appended (n0 := ((w2.alloc (.cells #[.slice none 0 0] 37)).alloc (.cells #[.slice (some ⟨w.heap.size + 1 + 1 + 1, 0, none⟩) s.size s.size, .slice (some ⟨M, 0, none⟩) s.size s.size] 94)).heap.size) hAP.out.2.2 hAP.out.1 HO.out (by decide) (Nat.le_refl _) (by omega) (Nat.le_refl _) hown hg (by simpa using hat)
                      obtain ⟨g', c', rfl⟩ := ownsRow_succ hown
                      have hc1 := hCC.1.cell
                      have hf1 := hCC.1.frozen
                      have HCC := Lib.hid hCC
                      clear hCC hown hg hat
                      refine hK _ _ ?_
                      clear hK K
                      refine wpAnyIn_ready (rs := [8]) (by kernel_rfl) (by simp) ?_
                      refine AllReadyIn.cons rfl (fun K hK => ?_) ?_
                      · go_simp
                        refine hK _ _ ?_
                        clear hK K
                        refine wpAnyIn_done (by kernel_rfl) ?_ _
                        have HZ := HCC
                        gi_wp2
                        exact ⟨⟨HZ.out.2.2.1.size, HZ.out.2.2.1.same⟩, ⟨⟨HZ.out.2.2.2.1.1.os, HZ.out.2.2.2.1.1.tape, HZ.out.2.2.2.1.1.output, HZ.out.2.2.2.1.1.size, HZ.out.2.2.2.1.1.block⟩, HZ.out.2.2.2.1.2⟩, HZ.out.2.2.2.2, by show Coll _ _ _ _ _ (facV s (ksOf l) (pre ++ [x])) B w2 _; rw [E.out]; exact HZ.out.2.1⟩
                      exact AllReadyIn.nil
                    exact AllReadyIn.nil
                  exact AllReadyIn.nil
                exact AllReadyIn.nil
              exact AllReadyIn.nil
            exact AllReadyIn.nil
          refine AllReadyIn.cons rfl (fun K hK => ?_) ?_
          · go_simp
            refine hK _ _ ?_
            clear hK K
            refine wpAnyIn_ready (rs := [2, 4]) (by kernel_rfl) (by simp) ?_
            refine AllReadyIn.cons rfl (fun K hK => ?_) ?_
            · go_simp
              refine hK _ _ ?_
              clear hK K
              refine wpAnyIn_ready (rs := [4]) (by kernel_rfl) (by simp) ?_
              refine AllReadyIn.cons rfl (fun K hK => ?_) ?_
              · go_simp
                refine hK _ _ ?_
                clear hK K
                refine wpAnyIn_ready (rs := [5]) (by kernel_rfl) (by simp) ?_
                refine AllReadyIn.cons rfl (fun K hK => ?_) ?_
                · go_simp
                  refine hK _ _ ?_
                  clear hK K
                  refine wpAnyIn_ready (rs := [6]) (by kernel_rfl) (by simp) ?_
                  refine AllReadyIn.cons rfl (fun K hK => ?_) ?_
                  · go_simp
                    refine hK _ _ ?_
                    clear hK K
                    refine wpAnyIn_ready (rs := [7]) (by kernel_rfl) (by simp) ?_
                    refine AllReadyIn.cons rfl (fun K hK => ?_) ?_
                    · refine step_append_at_in _ rfl (.tmp 41) (.tmp 47) 37 rfl w2.heap.size 9 i0 (.string ⟨#[]⟩) 1 16 Tryz.underlying37 hi hz0 hz1 hz2 rfl (by decide) v _ _ (by simp [Act.eval]) (hAP.out.1.alloc _) ⟨W.heap.size, 0, none⟩ 1 1 [.string (s.extract x.val (q + 1))] (by simp [Act.eval]) rfl (cell_one_new _ _ _) (by simp [Value.oneCell']) (by unfold maxLen; omega) (by omega) (by simp; omega) ?_
                      intro v' w3 hown hg hat
                      have hCC := hAP.out.2.1.appended (n0 := ((w2.alloc (.cells #[.slice none 0 0] 37)).alloc (.cells #[.slice (some ⟨w.heap.size + 1 + 1 + 1, 0, none⟩) s.size s.size, .slice (some ⟨M, 0, none⟩) s.size s.size] 94)).heap.size) hAP.out.2.2 hAP.out.1 HO.out (by decide) (Nat.le_refl _) (by omega) (Nat.le_refl _) hown hg (by simpa using hat)
                      obtain ⟨g', c', rfl⟩ := ownsRow_succ hown
                      have hc1 := hCC.1.cell
                      have hf1 := hCC.1.frozen
                      have HCC := Lib.hid hCC
                      clear hCC hown hg hat
                      refine hK _ _ ?_
                      clear hK K
                      refine wpAnyIn_ready (rs := [8]) (by kernel_rfl) (by simp) ?_
                      refine AllReadyIn.cons rfl (fun K hK => ?_) ?_
                      · go_simp
                        refine hK _ _ ?_
                        clear hK K
                        refine wpAnyIn_done (by kernel_rfl) ?_ _
                        have HZ := HCC
                        gi_wp2
                        exact ⟨⟨HZ.out.2.2.1.size, HZ.out.2.2.1.same⟩, ⟨⟨HZ.out.2.2.2.1.1.os, HZ.out.2.2.2.1.1.tape, HZ.out.2.2.2.1.1.output, HZ.out.2.2.2.1.1.size, HZ.out.2.2.2.1.1.block⟩, HZ.out.2.2.2.1.2⟩, HZ.out.2.2.2.2, by show Coll _ _ _ _ _ (facV s (ksOf l) (pre ++ [x])) B w2 _; rw [E.out]; exact HZ.out.2.1⟩
                      exact AllReadyIn.nil
                    exact AllReadyIn.nil
                  exact AllReadyIn.nil
                exact AllReadyIn.nil
              exact AllReadyIn.nil
            refine AllReadyIn.cons rfl (fun K hK => ?_) ?_
            · go_simp
              refine hK _ _ ?_
              clear hK K
              refine wpAnyIn_ready (rs := [2]) (by kernel_rfl) (by simp) ?_
              refine AllReadyIn.cons rfl (fun K hK => ?_) ?_
              · go_simp
                refine hK _ _ ?_
                clear hK K
                refine wpAnyIn_ready (rs := [5]) (by kernel_rfl) (by simp) ?_
                refine AllReadyIn.cons rfl (fun K hK => ?_) ?_
                · go_simp
                  refine hK _ _ ?_
                  clear hK K
                  refine wpAnyIn_ready (rs := [6]) (by kernel_rfl) (by simp) ?_
                  refine AllReadyIn.cons rfl (fun K hK => ?_) ?_
                  · go_simp
                    refine hK _ _ ?_
                    clear hK K
                    refine wpAnyIn_ready (rs := [7]) (by kernel_rfl) (by simp) ?_
                    refine AllReadyIn.cons rfl (fun K hK => ?_) ?_
                    · refine step_append_at_in _ rfl (.tmp 41) (.tmp 47) 37 rfl w2.heap.size 9 i0 (.string ⟨#[]⟩) 1 16 Tryz.underlying37 hi hz0 hz1 hz2 rfl (by decide) v _ _ (by simp [Act.eval]) (hAP.out.1.alloc _) ⟨W.heap.size, 0, none⟩ 1 1 [.string (s.extract x.val (q + 1))] (by simp [Act.eval]) rfl (cell_one_new _ _ _) (by simp [Value.oneCell']) (by unfold maxLen; omega) (by omega) (by simp; omega) ?_
                      intro v' w3 hown hg hat
                      have hCC := hAP.out.2.1.appended (n0 := ((w2.alloc (.cells #[.slice none 0 0] 37)).alloc (.cells #[.slice (some ⟨w.heap.size + 1 + 1 + 1, 0, none⟩) s.size s.size, .slice (some ⟨M, 0, none⟩) s.size s.size] 94)).heap.size) hAP.out.2.2 hAP.out.1 HO.out (by decide) (Nat.le_refl _) (by omega) (Nat.le_refl _) hown hg (by simpa using hat)
                      obtain ⟨g', c', rfl⟩ := ownsRow_succ hown
                      have hc1 := hCC.1.cell
                      have hf1 := hCC.1.frozen
                      have HCC := Lib.hid hCC
                      clear hCC hown hg hat
                      refine hK _ _ ?_
                      clear hK K
                      refine wpAnyIn_ready (rs := [8]) (by kernel_rfl) (by simp) ?_
                      refine AllReadyIn.cons rfl (fun K hK => ?_) ?_
                      · go_simp
                        refine hK _ _ ?_
                        clear hK K
                        refine wpAnyIn_done (by kernel_rfl) ?_ _
                        have HZ := HCC
                        gi_wp2
                        exact ⟨⟨HZ.out.2.2.1.size, HZ.out.2.2.1.same⟩, ⟨⟨HZ.out.2.2.2.1.1.os, HZ.out.2.2.2.1.1.tape, HZ.out.2.2.2.1.1.output, HZ.out.2.2.2.1.1.size, HZ.out.2.2.2.1.1.block⟩, HZ.out.2.2.2.1.2⟩, HZ.out.2.2.2.2, by show Coll _ _ _ _ _ (facV s (ksOf l) (pre ++ [x])) B w2 _; rw [E.out]; exact HZ.out.2.1⟩
                      exact AllReadyIn.nil
                    exact AllReadyIn.nil
                  exact AllReadyIn.nil
                exact AllReadyIn.nil
              exact AllReadyIn.nil
            exact AllReadyIn.nil
          exact AllReadyIn.nil
        refine AllReadyIn.cons rfl (fun K hK => ?_) ?_
        · go_simp
          refine hK _ _ ?_
          clear hK K
          refine wpAnyIn_ready (rs := [1, 3]) (by kernel_rfl) (by simp) ?_
          refine AllReadyIn.cons rfl (fun K hK => ?_) ?_
          · go_simp
            refine hK _ _ ?_
            clear hK K
            refine wpAnyIn_ready (rs := [3]) (by kernel_rfl) (by simp) ?_
            refine AllReadyIn.cons rfl (fun K hK => ?_) ?_
            · go_simp
              refine hK _ _ ?_
              clear hK K
              refine wpAnyIn_ready (rs := [4]) (by kernel_rfl) (by simp) ?_
              refine AllReadyIn.cons rfl (fun K hK => ?_) ?_
              · go_simp
                refine hK _ _ ?_
                clear hK K
                refine wpAnyIn_ready (rs := [5]) (by kernel_rfl) (by simp) ?_
                refine AllReadyIn.cons rfl (fun K hK => ?_) ?_
                · go_simp
                  refine hK _ _ ?_
                  clear hK K
                  refine wpAnyIn_ready (rs := [6]) (by kernel_rfl) (by simp) ?_
                  refine AllReadyIn.cons rfl (fun K hK => ?_) ?_
                  · go_simp
                    refine hK _ _ ?_
                    clear hK K
                    refine wpAnyIn_ready (rs := [7]) (by kernel_rfl) (by simp) ?_
                    refine AllReadyIn.cons rfl (fun K hK => ?_) ?_
                    · refine step_append_at_in _ rfl (.tmp 41) (.tmp 47) 37 rfl w2.heap.size 9 i0 (.string ⟨#[]⟩) 1 16 Tryz.underlying37 hi hz0 hz1 hz2 rfl (by decide) v _ _ (by simp [Act.eval]) (hAP.out.1.alloc _) ⟨W.heap.size, 0, none⟩ 1 1 [.string (s.extract x.val (q + 1))] (by simp [Act.eval]) rfl (cell_one_new _ _ _) (by simp [Value.oneCell']) (by unfold maxLen; omega) (by omega) (by simp; omega) ?_
                      intro v' w3 hown hg hat
                      have hCC := hAP.out.2.1.appended (n0 := ((w2.alloc (.cells #[.slice none 0 0] 37)).alloc (.cells #[.slice (some ⟨w.heap.size + 1 + 1 + 1, 0, none⟩) s.size s.size, .slice (some ⟨M, 0, none⟩) s.size s.size] 94)).heap.size) hAP.out.2.2 hAP.out.1 HO.out (by decide) (Nat.le_refl _) (by omega) (Nat.le_refl _) hown hg (by simpa using hat)
                      obtain ⟨g', c', rfl⟩ := ownsRow_succ hown
                      have hc1 := hCC.1.cell
                      have hf1 := hCC.1.frozen
                      have HCC := Lib.hid hCC
                      clear hCC hown hg hat
                      refine hK _ _ ?_
                      clear hK K
                      refine wpAnyIn_ready (rs := [8]) (by kernel_rfl) (by simp) ?_
                      refine AllReadyIn.cons rfl (fun K hK => ?_) ?_
                      · go_simp
                        refine hK _ _ ?_
                        clear hK K
                        refine wpAnyIn_done (by kernel_rfl) ?_ _
                        have HZ := HCC
                        gi_wp2
                        exact ⟨⟨HZ.out.2.2.1.size, HZ.out.2.2.1.same⟩, ⟨⟨HZ.out.2.2.2.1.1.os, HZ.out.2.2.2.1.1.tape, HZ.out.2.2.2.1.1.output, HZ.out.2.2.2.1.1.size, HZ.out.2.2.2.1.1.block⟩, HZ.out.2.2.2.1.2⟩, HZ.out.2.2.2.2, by show Coll _ _ _ _ _ (facV s (ksOf l) (pre ++ [x])) B w2 _; rw [E.out]; exact HZ.out.2.1⟩
                      exact AllReadyIn.nil
                    exact AllReadyIn.nil
                  exact AllReadyIn.nil
                exact AllReadyIn.nil
              exact AllReadyIn.nil
            exact AllReadyIn.nil
          refine AllReadyIn.cons rfl (fun K hK => ?_) ?_
          · go_simp
            refine hK _ _ ?_
            clear hK K
            refine wpAnyIn_ready (rs := [1, 4]) (by kernel_rfl) (by simp) ?_
            refine AllReadyIn.cons rfl (fun K hK => ?_) ?_
            · go_simp
              refine hK _ _ ?_
              clear hK K
              refine wpAnyIn_ready (rs := [4]) (by kernel_rfl) (by simp) ?_
              refine AllReadyIn.cons rfl (fun K hK => ?_) ?_
              · go_simp
                refine hK _ _ ?_
                clear hK K
                refine wpAnyIn_ready (rs := [5]) (by kernel_rfl) (by simp) ?_
                refine AllReadyIn.cons rfl (fun K hK => ?_) ?_
                · go_simp
                  refine hK _ _ ?_
                  clear hK K
                  refine wpAnyIn_ready (rs := [6]) (by kernel_rfl) (by simp) ?_
                  refine AllReadyIn.cons rfl (fun K hK => ?_) ?_
                  · go_simp
                    refine hK _ _ ?_
                    clear hK K
                    refine wpAnyIn_ready (rs := [7]) (by kernel_rfl) (by simp) ?_
                    refine AllReadyIn.cons rfl (fun K hK => ?_) ?_
                    · refine step_append_at_in _ rfl (.tmp 41) (.tmp 47) 37 rfl w2.heap.size 9 i0 (.string ⟨#[]⟩) 1 16 Tryz.underlying37 hi hz0 hz1 hz2 rfl (by decide) v _ _ (by simp [Act.eval]) (hAP.out.1.alloc _) ⟨W.heap.size, 0, none⟩ 1 1 [.string (s.extract x.val (q + 1))] (by simp [Act.eval]) rfl (cell_one_new _ _ _) (by simp [Value.oneCell']) (by unfold maxLen; omega) (by omega) (by simp; omega) ?_
                      intro v' w3 hown hg hat
                      have hCC := hAP.out.2.1.appended (n0 := ((w2.alloc (.cells #[.slice none 0 0] 37)).alloc (.cells #[.slice (some ⟨w.heap.size + 1 + 1 + 1, 0, none⟩) s.size s.size, .slice (some ⟨M, 0, none⟩) s.size s.size] 94)).heap.size) hAP.out.2.2 hAP.out.1 HO.out (by decide) (Nat.le_refl _) (by omega) (Nat.le_refl _) hown hg (by simpa using hat)
                      obtain ⟨g', c', rfl⟩ := ownsRow_succ hown
                      have hc1 := hCC.1.cell
                      have hf1 := hCC.1.frozen
                      have HCC := Lib.hid hCC
                      clear hCC hown hg hat
                      refine hK _ _ ?_
                      clear hK K
                      refine wpAnyIn_ready (rs := [8]) (by kernel_rfl) (by simp) ?_
                      refine AllReadyIn.cons rfl (fun K hK => ?_) ?_
                      · go_simp
                        refine hK _ _ ?_
                        clear hK K
                        refine wpAnyIn_done (by kernel_rfl) ?_ _
                        have HZ := HCC
                        gi_wp2
                        exact ⟨⟨HZ.out.2.2.1.size, HZ.out.2.2.1.same⟩, ⟨⟨HZ.out.2.2.2.1.1.os, HZ.out.2.2.2.1.1.tape, HZ.out.2.2.2.1.1.output, HZ.out.2.2.2.1.1.size, HZ.out.2.2.2.1.1.block⟩, HZ.out.2.2.2.1.2⟩, HZ.out.2.2.2.2, by show Coll _ _ _ _ _ (facV s (ksOf l) (pre ++ [x])) B w2 _; rw [E.out]; exact HZ.out.2.1⟩
                      exact AllReadyIn.nil
                    exact AllReadyIn.nil
                  exact AllReadyIn.nil
                exact AllReadyIn.nil
              exact AllReadyIn.nil
            refine AllReadyIn.cons rfl (fun K hK => ?_) ?_
            · go_simp
              refine hK _ _ ?_
              clear hK K
              refine wpAnyIn_ready (rs := [1]) (by kernel_rfl) (by simp) ?_
              refine AllReadyIn.cons rfl (fun K hK => ?_) ?_
              · go_simp
                refine hK _ _ ?_
                clear hK K
                refine wpAnyIn_ready (rs := [5]) (by kernel_rfl) (by simp) ?_
                refine AllReadyIn.cons rfl (fun K hK => ?_) ?_
                · go_simp
                  refine hK _ _ ?_
                  clear hK K
                  refine wpAnyIn_ready (rs := [6]) (by kernel_rfl) (by simp) ?_
                  refine AllReadyIn.cons rfl (fun K hK => ?_) ?_
                  · go_simp
                    refine hK _ _ ?_
                    clear hK K
                    refine wpAnyIn_ready (rs := [7]) (by kernel_rfl) (by simp) ?_
                    refine AllReadyIn.cons rfl (fun K hK => ?_) ?_
                    · refine step_append_at_in _ rfl (.tmp 41) (.tmp 47) 37 rfl w2.heap.size 9 i0 (.string ⟨#[]⟩) 1 16 Tryz.underlying37 hi hz0 hz1 hz2 rfl (by decide) v _ _ (by simp [Act.eval]) (hAP.out.1.alloc _) ⟨W.heap.size, 0, none⟩ 1 1 [.string (s.extract x.val (q + 1))] (by simp [Act.eval]) rfl (cell_one_new _ _ _) (by simp [Value.oneCell']) (by unfold maxLen; omega) (by omega) (by simp; omega) ?_
                      intro v' w3 hown hg hat
                      have hCC := hAP.out.2.1.appended (n0 := ((w2.alloc (.cells #[.slice none 0 0] 37)).alloc (.cells #[.slice (some ⟨w.heap.size + 1 + 1 + 1, 0, none⟩) s.size s.size, .slice (some ⟨M, 0, none⟩) s.size s.size] 94)).heap.size) hAP.out.2.2 hAP.out.1 HO.out (by decide) (Nat.le_refl _) (by omega) (Nat.le_refl _) hown hg (by simpa using hat)
                      obtain ⟨g', c', rfl⟩ := ownsRow_succ hown
                      have hc1 := hCC.1.cell
                      have hf1 := hCC.1.frozen
                      have HCC := Lib.hid hCC
                      clear hCC hown hg hat
                      refine hK _ _ ?_
                      clear hK K
                      refine wpAnyIn_ready (rs := [8]) (by kernel_rfl) (by simp) ?_
                      refine AllReadyIn.cons rfl (fun K hK => ?_) ?_
                      · go_simp
                        refine hK _ _ ?_
                        clear hK K
                        refine wpAnyIn_done (by kernel_rfl) ?_ _
                        have HZ := HCC
                        gi_wp2
                        exact ⟨⟨HZ.out.2.2.1.size, HZ.out.2.2.1.same⟩, ⟨⟨HZ.out.2.2.2.1.1.os, HZ.out.2.2.2.1.1.tape, HZ.out.2.2.2.1.1.output, HZ.out.2.2.2.1.1.size, HZ.out.2.2.2.1.1.block⟩, HZ.out.2.2.2.1.2⟩, HZ.out.2.2.2.2, by show Coll _ _ _ _ _ (facV s (ksOf l) (pre ++ [x])) B w2 _; rw [E.out]; exact HZ.out.2.1⟩
                      exact AllReadyIn.nil
                    exact AllReadyIn.nil
                  exact AllReadyIn.nil
                exact AllReadyIn.nil
              exact AllReadyIn.nil
            exact AllReadyIn.nil
          exact AllReadyIn.nil
        refine AllReadyIn.cons rfl (fun K hK => ?_) ?_
        · go_simp
          refine hK _ _ ?_
          clear hK K
          refine wpAnyIn_ready (rs := [1, 2, 4]) (by kernel_rfl) (by simp) ?_
          refine AllReadyIn.cons rfl (fun K hK => ?_) ?_
          · go_simp
            refine hK _ _ ?_
            clear hK K
            refine wpAnyIn_ready (rs := [2, 4]) (by kernel_rfl) (by simp) ?_
            refine AllReadyIn.cons rfl (fun K hK => ?_) ?_
            · go_simp
              refine hK _ _ ?_
              clear hK K
              refine wpAnyIn_ready (rs := [4]) (by kernel_rfl) (by simp) ?_
              refine AllReadyIn.cons rfl (fun K hK => ?_) ?_
              · go_simp
                refine hK _ _ ?_
                clear hK K
                refine wpAnyIn_ready (rs := [5]) (by kernel_rfl) (by simp) ?_
                refine AllReadyIn.cons rfl (fun K hK => ?_) ?_
                · go_simp
                  refine hK _ _ ?_
                  clear hK K
                  refine wpAnyIn_ready (rs := [6]) (by kernel_rfl) (by simp) ?_
                  refine AllReadyIn.cons rfl (fun K hK => ?_) ?_
                  · go_simp
                    refine hK _ _ ?_
                    clear hK K
                    refine wpAnyIn_ready (rs := [7]) (by kernel_rfl) (by simp) ?_
                    refine AllReadyIn.cons rfl (fun K hK => ?_) ?_
                    · refine step_append_at_in _ rfl (.tmp 41) (.tmp 47) 37 rfl w2.heap.size 9 i0 (.string ⟨#[]⟩) 1 16 Tryz.underlying37 hi hz0 hz1 hz2 rfl (by decide) v _ _ (by simp [Act.eval]) (hAP.out.1.alloc _) ⟨W.heap.size, 0, none⟩ 1 1 [.string (s.extract x.val (q + 1))] (by simp [Act.eval]) rfl (cell_one_new _ _ _) (by simp [Value.oneCell']) (by unfold maxLen; omega) (by omega) (by simp; omega) ?_
                      intro v' w3 hown hg hat
                      have hCC := hAP.out.2.1.appended (n0 := ((w2.alloc (.cells #[.slice none 0 0] 37)).alloc (.cells #[.slice (some ⟨w.heap.size + 1 + 1 + 1, 0, none⟩) s.size s.size, .slice (some ⟨M, 0, none⟩) s.size s.size] 94)).heap.size) hAP.out.2.2 hAP.out.1 HO.out (by decide) (Nat.le_refl _) (by omega) (Nat.le_refl _) hown hg (by simpa using hat)
                      obtain ⟨g', c', rfl⟩ := ownsRow_succ hown
                      have hc1 := hCC.1.cell
                      have hf1 := hCC.1.frozen
                      have HCC := Lib.hid hCC
                      clear hCC hown hg hat
                      refine hK _ _ ?_
                      clear hK K
                      refine wpAnyIn_ready (rs := [8]) (by kernel_rfl) (by simp) ?_
                      refine AllReadyIn.cons rfl (fun K hK => ?_) ?_
                      · go_simp
                        refine hK _ _ ?_
                        clear hK K
                        refine wpAnyIn_done (by kernel_rfl) ?_ _
                        have HZ := HCC
                        gi_wp2
                        exact ⟨⟨HZ.out.2.2.1.size, HZ.out.2.2.1.same⟩, ⟨⟨HZ.out.2.2.2.1.1.os, HZ.out.2.2.2.1.1.tape, HZ.out.2.2.2.1.1.output, HZ.out.2.2.2.1.1.size, HZ.out.2.2.2.1.1.block⟩, HZ.out.2.2.2.1.2⟩, HZ.out.2.2.2.2, by show Coll _ _ _ _ _ (facV s (ksOf l) (pre ++ [x])) B w2 _; rw [E.out]; exact HZ.out.2.1⟩
                      exact AllReadyIn.nil
                    exact AllReadyIn.nil
                  exact AllReadyIn.nil
                exact AllReadyIn.nil
              exact AllReadyIn.nil
            refine AllReadyIn.cons rfl (fun K hK => ?_) ?_
            · go_simp
              refine hK _ _ ?_
              clear hK K
              refine wpAnyIn_ready (rs := [2]) (by kernel_rfl) (by simp) ?_
              refine AllReadyIn.cons rfl (fun K hK => ?_) ?_
              · go_simp
                refine hK _ _ ?_
                clear hK K
                refine wpAnyIn_ready (rs := [5]) (by kernel_rfl) (by simp) ?_
                refine AllReadyIn.cons rfl (fun K hK => ?_) ?_
                · go_simp
                  refine hK _ _ ?_
                  clear hK K
                  refine wpAnyIn_ready (rs := [6]) (by kernel_rfl) (by simp) ?_
                  refine AllReadyIn.cons rfl (fun K hK => ?_) ?_
                  · go_simp
                    refine hK _ _ ?_
                    clear hK K
                    refine wpAnyIn_ready (rs := [7]) (by kernel_rfl) (by simp) ?_
                    refine AllReadyIn.cons rfl (fun K hK => ?_) ?_
                    · refine step_append_at_in _ rfl (.tmp 41) (.tmp 47) 37 rfl w2.heap.size 9 i0 (.string ⟨#[]⟩) 1 16 Tryz.underlying37 hi hz0 hz1 hz2 rfl (by decide) v _ _ (by simp [Act.eval]) (hAP.out.1.alloc _) ⟨W.heap.size, 0, none⟩ 1 1 [.string (s.extract x.val (q + 1))] (by simp [Act.eval]) rfl (cell_one_new _ _ _) (by simp [Value.oneCell']) (by unfold maxLen; omega) (by omega) (by simp; omega) ?_
                      intro v' w3 hown hg hat
                      have hCC := hAP.out.2.1.appended (n0 := ((w2.alloc (.cells #[.slice none 0 0] 37)).alloc (.cells #[.slice (some ⟨w.heap.size + 1 + 1 + 1, 0, none⟩) s.size s.size, .slice (some ⟨M, 0, none⟩) s.size s.size] 94)).heap.size) hAP.out.2.2 hAP.out.1 HO.out (by decide) (Nat.le_refl _) (by omega) (Nat.le_refl _) hown hg (by simpa using hat)
                      obtain ⟨g', c', rfl⟩ := ownsRow_succ hown
                      have hc1 := hCC.1.cell
                      have hf1 := hCC.1.frozen
                      have HCC := Lib.hid hCC
                      clear hCC hown hg hat
                      refine hK _ _ ?_
                      clear hK K
                      refine wpAnyIn_ready (rs := [8]) (by kernel_rfl) (by simp) ?_
                      refine AllReadyIn.cons rfl (fun K hK => ?_) ?_
                      · go_simp
                        refine hK _ _ ?_
                        clear hK K
                        refine wpAnyIn_done (by kernel_rfl) ?_ _
                        have HZ := HCC
                        gi_wp2
                        exact ⟨⟨HZ.out.2.2.1.size, HZ.out.2.2.1.same⟩, ⟨⟨HZ.out.2.2.2.1.1.os, HZ.out.2.2.2.1.1.tape, HZ.out.2.2.2.1.1.output, HZ.out.2.2.2.1.1.size, HZ.out.2.2.2.1.1.block⟩, HZ.out.2.2.2.1.2⟩, HZ.out.2.2.2.2, by show Coll _ _ _ _ _ (facV s (ksOf l) (pre ++ [x])) B w2 _; rw [E.out]; exact HZ.out.2.1⟩
                      exact AllReadyIn.nil
                    exact AllReadyIn.nil
                  exact AllReadyIn.nil
                exact AllReadyIn.nil
              exact AllReadyIn.nil
            exact AllReadyIn.nil
          refine AllReadyIn.cons rfl (fun K hK => ?_) ?_
          · go_simp
            refine hK _ _ ?_
            clear hK K
            refine wpAnyIn_ready (rs := [1, 4]) (by kernel_rfl) (by simp) ?_
            refine AllReadyIn.cons rfl (fun K hK => ?_) ?_
            · go_simp
              refine hK _ _ ?_
              clear hK K
              refine wpAnyIn_ready (rs := [4]) (by kernel_rfl) (by simp) ?_
              refine AllReadyIn.cons rfl (fun K hK => ?_) ?_
              · go_simp
                refine hK _ _ ?_
                clear hK K
                refine wpAnyIn_ready (rs := [5]) (by kernel_rfl) (by simp) ?_
                refine AllReadyIn.cons rfl (fun K hK => ?_) ?_
                · go_simp
                  refine hK _ _ ?_
                  clear hK K
                  refine wpAnyIn_ready (rs := [6]) (by kernel_rfl) (by simp) ?_
                  refine AllReadyIn.cons rfl (fun K hK => ?_) ?_
                  · go_simp
                    refine hK _ _ ?_
                    clear hK K
                    refine wpAnyIn_ready (rs := [7]) (by kernel_rfl) (by simp) ?_
                    refine AllReadyIn.cons rfl (fun K hK => ?_) ?_
                    · refine step_append_at_in _ rfl (.tmp 41) (.tmp 47) 37 rfl w2.heap.size 9 i0 (.string ⟨#[]⟩) 1 16 Tryz.underlying37 hi hz0 hz1 hz2 rfl (by decide) v _ _ (by simp [Act.eval]) (hAP.out.1.alloc _) ⟨W.heap.size, 0, none⟩ 1 1 [.string (s.extract x.val (q + 1))] (by simp [Act.eval]) rfl (cell_one_new _ _ _) (by simp [Value.oneCell']) (by unfold maxLen; omega) (by omega) (by simp; omega) ?_
                      intro v' w3 hown hg hat
                      have hCC := hAP.out.2.1.appended (n0 := ((w2.alloc (.cells #[.slice none 0 0] 37)).alloc (.cells #[.slice (some ⟨w.heap.size + 1 + 1 + 1, 0, none⟩) s.size s.size, .slice (some ⟨M, 0, none⟩) s.size s.size] 94)).heap.size) hAP.out.2.2 hAP.out.1 HO.out (by decide) (Nat.le_refl _) (by omega) (Nat.le_refl _) hown hg (by simpa using hat)
                      obtain ⟨g', c', rfl⟩ := ownsRow_succ hown
                      have hc1 := hCC.1.cell
                      have hf1 := hCC.1.frozen
                      have HCC := Lib.hid hCC
                      clear hCC hown hg hat
                      refine hK _ _ ?_
                      clear hK K
                      refine wpAnyIn_ready (rs := [8]) (by kernel_rfl) (by simp) ?_
                      refine AllReadyIn.cons rfl (fun K hK => ?_) ?_
                      · go_simp
                        refine hK _ _ ?_
                        clear hK K
                        refine wpAnyIn_done (by kernel_rfl) ?_ _
                        have HZ := HCC
                        gi_wp2
                        exact ⟨⟨HZ.out.2.2.1.size, HZ.out.2.2.1.same⟩, ⟨⟨HZ.out.2.2.2.1.1.os, HZ.out.2.2.2.1.1.tape, HZ.out.2.2.2.1.1.output, HZ.out.2.2.2.1.1.size, HZ.out.2.2.2.1.1.block⟩, HZ.out.2.2.2.1.2⟩, HZ.out.2.2.2.2, by show Coll _ _ _ _ _ (facV s (ksOf l) (pre ++ [x])) B w2 _; rw [E.out]; exact HZ.out.2.1⟩
                      exact AllReadyIn.nil
                    exact AllReadyIn.nil
                  exact AllReadyIn.nil
                exact AllReadyIn.nil
              exact AllReadyIn.nil
            refine AllReadyIn.cons rfl (fun K hK => ?_) ?_
            · go_simp
              refine hK _ _ ?_
              clear hK K
              refine wpAnyIn_ready (rs := [1]) (by kernel_rfl) (by simp) ?_
              refine AllReadyIn.cons rfl (fun K hK => ?_) ?_
              · go_simp
                refine hK _ _ ?_
                clear hK K
                refine wpAnyIn_ready (rs := [5]) (by kernel_rfl) (by simp) ?_
                refine AllReadyIn.cons rfl (fun K hK => ?_) ?_
                · go_simp
                  refine hK _ _ ?_
                  clear hK K
                  refine wpAnyIn_ready (rs := [6]) (by kernel_rfl) (by simp) ?_
                  refine AllReadyIn.cons rfl (fun K hK => ?_) ?_
                  · go_simp
                    refine hK _ _ ?_
                    clear hK K
                    refine wpAnyIn_ready (rs := [7]) (by kernel_rfl) (by simp) ?_
                    refine AllReadyIn.cons rfl (fun K hK => ?_) ?_
                    · refine step_append_at_in _ rfl (.tmp 41) (.tmp 47) 37 rfl w2.heap.size 9 i0 (.string ⟨#[]⟩) 1 16 Tryz.underlying37 hi hz0 hz1 hz2 rfl (by decide) v _ _ (by simp [Act.eval]) (hAP.out.1.alloc _) ⟨W.heap.size, 0, none⟩ 1 1 [.string (s.extract x.val (q + 1))] (by simp [Act.eval]) rfl (cell_one_new _ _ _) (by simp [Value.oneCell']) (by unfold maxLen; omega) (by omega) (by simp; omega) ?_
                      intro v' w3 hown hg hat
                      have hCC := hAP.out.2.1.appended (n0 := ((w2.alloc (.cells #[.slice none 0 0] 37)).alloc (.cells #[.slice (some ⟨w.heap.size + 1 + 1 + 1, 0, none⟩) s.size s.size, .slice (some ⟨M, 0, none⟩) s.size s.size] 94)).heap.size) hAP.out.2.2 hAP.out.1 HO.out (by decide) (Nat.le_refl _) (by omega) (Nat.le_refl _) hown hg (by simpa using hat)
                      obtain ⟨g', c', rfl⟩ := ownsRow_succ hown
                      have hc1 := hCC.1.cell
                      have hf1 := hCC.1.frozen
                      have HCC := Lib.hid hCC
                      clear hCC hown hg hat
                      refine hK _ _ ?_
                      clear hK K
                      refine wpAnyIn_ready (rs := [8]) (by kernel_rfl) (by simp) ?_
                      refine AllReadyIn.cons rfl (fun K hK => ?_) ?_
                      · go_simp
                        refine hK _ _ ?_
                        clear hK K
                        refine wpAnyIn_done (by kernel_rfl) ?_ _
                        have HZ := HCC
                        gi_wp2
                        exact ⟨⟨HZ.out.2.2.1.size, HZ.out.2.2.1.same⟩, ⟨⟨HZ.out.2.2.2.1.1.os, HZ.out.2.2.2.1.1.tape, HZ.out.2.2.2.1.1.output, HZ.out.2.2.2.1.1.size, HZ.out.2.2.2.1.1.block⟩, HZ.out.2.2.2.1.2⟩, HZ.out.2.2.2.2, by show Coll _ _ _ _ _ (facV s (ksOf l) (pre ++ [x])) B w2 _; rw [E.out]; exact HZ.out.2.1⟩
                      exact AllReadyIn.nil
                    exact AllReadyIn.nil
                  exact AllReadyIn.nil
                exact AllReadyIn.nil
              exact AllReadyIn.nil
            exact AllReadyIn.nil
          refine AllReadyIn.cons rfl (fun K hK => ?_) ?_
          · go_simp
            refine hK _ _ ?_
            clear hK K
            refine wpAnyIn_ready (rs := [1, 2]) (by kernel_rfl) (by simp) ?_
            refine AllReadyIn.cons rfl (fun K hK => ?_) ?_
            · go_simp
              refine hK _ _ ?_
              clear hK K
              refine wpAnyIn_ready (rs := [2]) (by kernel_rfl) (by simp) ?_
              refine AllReadyIn.cons rfl (fun K hK => ?_) ?_
              · go_simp
                refine hK _ _ ?_
                clear hK K
                refine wpAnyIn_ready (rs := [5]) (by kernel_rfl) (by simp) ?_
                refine AllReadyIn.cons rfl (fun K hK => ?_) ?_
                · go_simp
                  refine hK _ _ ?_
                  clear hK K
                  refine wpAnyIn_ready (rs := [6]) (by kernel_rfl) (by simp) ?_
                  refine AllReadyIn.cons rfl (fun K hK => ?_) ?_
                  · go_simp
                    refine hK _ _ ?_
                    clear hK K
                    refine wpAnyIn_ready (rs := [7]) (by kernel_rfl) (by simp) ?_
                    refine AllReadyIn.cons rfl (fun K hK => ?_) ?_
                    · refine step_append_at_in _ rfl (.tmp 41) (.tmp 47) 37 rfl w2.heap.size 9 i0 (.string ⟨#[]⟩) 1 16 Tryz.underlying37 hi hz0 hz1 hz2 rfl (by decide) v _ _ (by simp [Act.eval]) (hAP.out.1.alloc _) ⟨W.heap.size, 0, none⟩ 1 1 [.string (s.extract x.val (q + 1))] (by simp [Act.eval]) rfl (cell_one_new _ _ _) (by simp [Value.oneCell']) (by unfold maxLen; omega) (by omega) (by simp; omega) ?_
                      intro v' w3 hown hg hat
                      have hCC := hAP.out.2.1.appended (n0 := ((w2.alloc (.cells #[.slice none 0 0] 37)).alloc (.cells #[.slice (some ⟨w.heap.size + 1 + 1 + 1, 0, none⟩) s.size s.size, .slice (some ⟨M, 0, none⟩) s.size s.size] 94)).heap.size) hAP.out.2.2 hAP.out.1 HO.out (by decide) (Nat.le_refl _) (by omega) (Nat.le_refl _) hown hg (by simpa using hat)
                      obtain ⟨g', c', rfl⟩ := ownsRow_succ hown
                      have hc1 := hCC.1.cell
                      have hf1 := hCC.1.frozen
                      have HCC := Lib.hid hCC
                      clear hCC hown hg hat
                      refine hK _ _ ?_
                      clear hK K
                      refine wpAnyIn_ready (rs := [8]) (by kernel_rfl) (by simp) ?_
                      refine AllReadyIn.cons rfl (fun K hK => ?_) ?_
                      · go_simp
                        refine hK _ _ ?_
                        clear hK K
                        refine wpAnyIn_done (by kernel_rfl) ?_ _
                        have HZ := HCC
                        gi_wp2
                        exact ⟨⟨HZ.out.2.2.1.size, HZ.out.2.2.1.same⟩, ⟨⟨HZ.out.2.2.2.1.1.os, HZ.out.2.2.2.1.1.tape, HZ.out.2.2.2.1.1.output, HZ.out.2.2.2.1.1.size, HZ.out.2.2.2.1.1.block⟩, HZ.out.2.2.2.1.2⟩, HZ.out.2.2.2.2, by show Coll _ _ _ _ _ (facV s (ksOf l) (pre ++ [x])) B w2 _; rw [E.out]; exact HZ.out.2.1⟩
                      exact AllReadyIn.nil
                    exact AllReadyIn.nil
                  exact AllReadyIn.nil
                exact AllReadyIn.nil
              exact AllReadyIn.nil
            refine AllReadyIn.cons rfl (fun K hK => ?_) ?_
            · go_simp
              refine hK _ _ ?_
              clear hK K
              refine wpAnyIn_ready (rs := [1]) (by kernel_rfl) (by simp) ?_
              refine AllReadyIn.cons rfl (fun K hK => ?_) ?_
              · go_simp
                refine hK _ _ ?_
                clear hK K
                refine wpAnyIn_ready (rs := [5]) (by kernel_rfl) (by simp) ?_
                refine AllReadyIn.cons rfl (fun K hK => ?_) ?_
                · go_simp
                  refine hK _ _ ?_
                  clear hK K
                  refine wpAnyIn_ready (rs := [6]) (by kernel_rfl) (by simp) ?_
                  refine AllReadyIn.cons rfl (fun K hK => ?_) ?_
                  · go_simp
                    refine hK _ _ ?_
                    clear hK K
                    refine wpAnyIn_ready (rs := [7]) (by kernel_rfl) (by simp) ?_
                    refine AllReadyIn.cons rfl (fun K hK => ?_) ?_
                    · refine step_append_at_in _ rfl (.tmp 41) (.tmp 47) 37 rfl w2.heap.size 9 i0 (.string ⟨#[]⟩) 1 16 Tryz.underlying37 hi hz0 hz1 hz2 rfl (by decide) v _ _ (by simp [Act.eval]) (hAP.out.1.alloc _) ⟨W.heap.size, 0, none⟩ 1 1 [.string (s.extract x.val (q + 1))] (by simp [Act.eval]) rfl (cell_one_new _ _ _) (by simp [Value.oneCell']) (by unfold maxLen; omega) (by omega) (by simp; omega) ?_
                      intro v' w3 hown hg hat
                      have hCC := hAP.out.2.1.appended (n0 := ((w2.alloc (.cells #[.slice none 0 0] 37)).alloc (.cells #[.slice (some ⟨w.heap.size + 1 + 1 + 1, 0, none⟩) s.size s.size, .slice (some ⟨M, 0, none⟩) s.size s.size] 94)).heap.size) hAP.out.2.2 hAP.out.1 HO.out (by decide) (Nat.le_refl _) (by omega) (Nat.le_refl _) hown hg (by simpa using hat)
                      obtain ⟨g', c', rfl⟩ := ownsRow_succ hown
                      have hc1 := hCC.1.cell
                      have hf1 := hCC.1.frozen
                      have HCC := Lib.hid hCC
                      clear hCC hown hg hat
                      refine hK _ _ ?_
                      clear hK K
                      refine wpAnyIn_ready (rs := [8]) (by kernel_rfl) (by simp) ?_
                      refine AllReadyIn.cons rfl (fun K hK => ?_) ?_
                      · go_simp
                        refine hK _ _ ?_
                        clear hK K
                        refine wpAnyIn_done (by kernel_rfl) ?_ _
                        have HZ := HCC
                        gi_wp2
                        exact ⟨⟨HZ.out.2.2.1.size, HZ.out.2.2.1.same⟩, ⟨⟨HZ.out.2.2.2.1.1.os, HZ.out.2.2.2.1.1.tape, HZ.out.2.2.2.1.1.output, HZ.out.2.2.2.1.1.size, HZ.out.2.2.2.1.1.block⟩, HZ.out.2.2.2.1.2⟩, HZ.out.2.2.2.2, by show Coll _ _ _ _ _ (facV s (ksOf l) (pre ++ [x])) B w2 _; rw [E.out]; exact HZ.out.2.1⟩
                      exact AllReadyIn.nil
                    exact AllReadyIn.nil
                  exact AllReadyIn.nil
                exact AllReadyIn.nil
              exact AllReadyIn.nil
            exact AllReadyIn.nil
          exact AllReadyIn.nil
        exact AllReadyIn.nil
      refine AllReadyIn.cons rfl (fun K hK => ?_) ?_
      · go_simp
        refine hK _ _ ?_
        clear hK K
        refine wpAnyIn_ready (rs := [0, 2, 3]) (by kernel_rfl) (by simp) ?_
        refine AllReadyIn.cons rfl (fun K hK => ?_) ?_
        · go_simp
          refine hK _ _ ?_
          clear hK K
          refine wpAnyIn_ready (rs := [2, 3]) (by kernel_rfl) (by simp) ?_
          refine AllReadyIn.cons rfl (fun K hK => ?_) ?_
          · go_simp
            refine hK _ _ ?_
            clear hK K
            refine wpAnyIn_ready (rs := [3]) (by kernel_rfl) (by simp) ?_
            refine AllReadyIn.cons rfl (fun K hK => ?_) ?_
            · go_simp
              refine hK _ _ ?_
              clear hK K
              refine wpAnyIn_ready (rs := [4]) (by kernel_rfl) (by simp) ?_
              refine AllReadyIn.cons rfl (fun K hK => ?_) ?_
              · go_simp
                refine hK _ _ ?_
                clear hK K
                refine wpAnyIn_ready (rs := [5]) (by kernel_rfl) (by simp) ?_
                refine AllReadyIn.cons rfl (fun K hK => ?_) ?_
                · go_simp
                  refine hK _ _ ?_
                  clear hK K
                  refine wpAnyIn_ready (rs := [6]) (by kernel_rfl) (by simp) ?_
                  refine AllReadyIn.cons rfl (fun K hK => ?_) ?_
                  · go_simp
                    refine hK _ _ ?_
                    clear hK K
                    refine wpAnyIn_ready (rs := [7]) (by kernel_rfl) (by simp) ?_
                    refine AllReadyIn.cons rfl (fun K hK => ?_) ?_
                    · refine step_append_at_in _ rfl (.tmp 41) (.tmp 47) 37 rfl w2.heap.size 9 i0 (.string ⟨#[]⟩) 1 16 Tryz.underlying37 hi hz0 hz1 hz2 rfl (by decide) v _ _ (by simp [Act.eval]) (hAP.out.1.alloc _) ⟨W.heap.size, 0, none⟩ 1 1 [.string (s.extract x.val (q + 1))] (by simp [Act.eval]) rfl (cell_one_new _ _ _) (by simp [Value.oneCell']) (by unfold maxLen; omega) (by omega) (by simp; omega) ?_
                      intro v' w3 hown hg hat
                      have hCC := hAP.out.2.1.appended (n0 := ((w2.alloc (.cells #[.slice none 0 0] 37)).alloc (.cells #[.slice (some ⟨w.heap.size + 1 + 1 + 1, 0, none⟩) s.size s.size, .slice (some ⟨M, 0, none⟩) s.size s.size] 94)).heap.size) hAP.out.2.2 hAP.out.1 HO.out (by decide) (Nat.le_refl _) (by omega) (Nat.le_refl _) hown hg (by simpa using hat)
                      obtain ⟨g', c', rfl⟩ := ownsRow_succ hown
                      have hc1 := hCC.1.cell
                      have hf1 := hCC.1.frozen
                      have HCC := Lib.hid hCC
                      clear hCC hown hg hat
                      refine hK _ _ ?_
                      clear hK K
                      refine wpAnyIn_ready (rs := [8]) (by kernel_rfl) (by simp) ?_
                      refine AllReadyIn.cons rfl (fun K hK => ?_) ?_
                      · go_simp
                        refine hK _ _ ?_
                        clear hK K
                        refine wpAnyIn_done (by kernel_rfl) ?_ _
                        have HZ := HCC
                        gi_wp2
                        exact ⟨⟨HZ.out.2.2.1.size, HZ.out.2.2.1.same⟩, ⟨⟨HZ.out.2.2.2.1.1.os, HZ.out.2.2.2.1.1.tape, HZ.out.2.2.2.1.1.output, HZ.out.2.2.2.1.1.size, HZ.out.2.2.2.1.1.block⟩, HZ.out.2.2.2.1.2⟩, HZ.out.2.2.2.2, by show Coll _ _ _ _ _ (facV s (ksOf l) (pre ++ [x])) B w2 _; rw [E.out]; exact HZ.out.2.1⟩
                      exact AllReadyIn.nil
                    exact AllReadyIn.nil
                  exact AllReadyIn.nil
                exact AllReadyIn.nil
              exact AllReadyIn.nil
            exact AllReadyIn.nil
          refine AllReadyIn.cons rfl (fun K hK => ?_) ?_
          · go_simp
            refine hK _ _ ?_
            clear hK K
            refine wpAnyIn_ready (rs := [2, 4]) (by kernel_rfl) (by simp) ?_
            refine AllReadyIn.cons rfl (fun K hK => ?_) ?_
            · go_simp
              refine hK _ _ ?_
              clear hK K
              refine wpAnyIn_ready (rs := [4]) (by kernel_rfl) (by simp) ?_
              refine AllReadyIn.cons rfl (fun K hK => ?_) ?_
              · go_simp
                refine hK _ _ ?_
                clear hK K
                refine wpAnyIn_ready (rs := [5]) (by kernel_rfl) (by simp) ?_
                refine AllReadyIn.cons rfl (fun K hK => ?_) ?_
                · go_simp
                  refine hK _ _ ?_
                  clear hK K
                  refine wpAnyIn_ready (rs := [6]) (by kernel_rfl) (by simp) ?_
                  refine AllReadyIn.cons rfl (fun K hK => ?_) ?_
                  · go_simp
                    refine hK _ _ ?_
                    clear hK K
                    refine wpAnyIn_ready (rs := [7]) (by kernel_rfl) (by simp) ?_
                    refine AllReadyIn.cons rfl (fun K hK => ?_) ?_
                    · refine step_append_at_in _ rfl (.tmp 41) (.tmp 47) 37 rfl w2.heap.size 9 i0 (.string ⟨#[]⟩) 1 16 Tryz.underlying37 hi hz0 hz1 hz2 rfl (by decide) v _ _ (by simp [Act.eval]) (hAP.out.1.alloc _) ⟨W.heap.size, 0, none⟩ 1 1 [.string (s.extract x.val (q + 1))] (by simp [Act.eval]) rfl (cell_one_new _ _ _) (by simp [Value.oneCell']) (by unfold maxLen; omega) (by omega) (by simp; omega) ?_
                      intro v' w3 hown hg hat
                      have hCC := hAP.out.2.1.appended (n0 := ((w2.alloc (.cells #[.slice none 0 0] 37)).alloc (.cells #[.slice (some ⟨w.heap.size + 1 + 1 + 1, 0, none⟩) s.size s.size, .slice (some ⟨M, 0, none⟩) s.size s.size] 94)).heap.size) hAP.out.2.2 hAP.out.1 HO.out (by decide) (Nat.le_refl _) (by omega) (Nat.le_refl _) hown hg (by simpa using hat)
                      obtain ⟨g', c', rfl⟩ := ownsRow_succ hown
                      have hc1 := hCC.1.cell
                      have hf1 := hCC.1.frozen
                      have HCC := Lib.hid hCC
                      clear hCC hown hg hat
                      refine hK _ _ ?_
                      clear hK K
                      refine wpAnyIn_ready (rs := [8]) (by kernel_rfl) (by simp) ?_
                      refine AllReadyIn.cons rfl (fun K hK => ?_) ?_
                      · go_simp
                        refine hK _ _ ?_
                        clear hK K
                        refine wpAnyIn_done (by kernel_rfl) ?_ _
                        have HZ := HCC
                        gi_wp2
                        exact ⟨⟨HZ.out.2.2.1.size, HZ.out.2.2.1.same⟩, ⟨⟨HZ.out.2.2.2.1.1.os, HZ.out.2.2.2.1.1.tape, HZ.out.2.2.2.1.1.output, HZ.out.2.2.2.1.1.size, HZ.out.2.2.2.1.1.block⟩, HZ.out.2.2.2.1.2⟩, HZ.out.2.2.2.2, by show Coll _ _ _ _ _ (facV s (ksOf l) (pre ++ [x])) B w2 _; rw [E.out]; exact HZ.out.2.1⟩
                      exact AllReadyIn.nil
                    exact AllReadyIn.nil
                  exact AllReadyIn.nil
                exact AllReadyIn.nil
              exact AllReadyIn.nil
            refine AllReadyIn.cons rfl (fun K hK => ?_) ?_
            · go_simp
              refine hK _ _ ?_
              clear hK K
              refine wpAnyIn_ready (rs := [2]) (by kernel_rfl) (by simp) ?_
              refine AllReadyIn.cons rfl (fun K hK => ?_) ?_
              · go_simp
                refine hK _ _ ?_
                clear hK K
                refine wpAnyIn_ready (rs := [5]) (by kernel_rfl) (by simp) ?_
                refine AllReadyIn.cons rfl (fun K hK => ?_) ?_
                · go_simp
                  refine hK _ _ ?_
                  clear hK K
                  refine wpAnyIn_ready (rs := [6]) (by kernel_rfl) (by simp) ?_
                  refine AllReadyIn.cons rfl (fun K hK => ?_) ?_
                  · go_simp
                    refine hK _ _ ?_
                    clear hK K
                    refine wpAnyIn_ready (rs := [7]) (by kernel_rfl) (by simp) ?_
                    refine AllReadyIn.cons rfl (fun K hK => ?_) ?_
                    · refine step_append_at_in _ rfl (.tmp 41) (.tmp 47) 37 rfl w2.heap.size 9 i0 (.string ⟨#[]⟩) 1 16 Tryz.underlying37 hi hz0 hz1 hz2 rfl (by decide) v _ _ (by simp [Act.eval]) (hAP.out.1.alloc _) ⟨W.heap.size, 0, none⟩ 1 1 [.string (s.extract x.val (q + 1))] (by simp [Act.eval]) rfl (cell_one_new _ _ _) (by simp [Value.oneCell']) (by unfold maxLen; omega) (by omega) (by simp; omega) ?_
                      intro v' w3 hown hg hat
                      have hCC := hAP.out.2.1.appended (n0 := ((w2.alloc (.cells #[.slice none 0 0] 37)).alloc (.cells #[.slice (some ⟨w.heap.size + 1 + 1 + 1, 0, none⟩) s.size s.size, .slice (some ⟨M, 0, none⟩) s.size s.size] 94)).heap.size) hAP.out.2.2 hAP.out.1 HO.out (by decide) (Nat.le_refl _) (by omega) (Nat.le_refl _) hown hg (by simpa using hat)
                      obtain ⟨g', c', rfl⟩ := ownsRow_succ hown
                      have hc1 := hCC.1.cell
                      have hf1 := hCC.1.frozen
                      have HCC := Lib.hid hCC
                      clear hCC hown hg hat
                      refine hK _ _ ?_
                      clear hK K
                      refine wpAnyIn_ready (rs := [8]) (by kernel_rfl) (by simp) ?_
                      refine AllReadyIn.cons rfl (fun K hK => ?_) ?_
                      · go_simp
                        refine hK _ _ ?_
                        clear hK K
                        refine wpAnyIn_done (by kernel_rfl) ?_ _
                        have HZ := HCC
                        gi_wp2
                        exact ⟨⟨HZ.out.2.2.1.size, HZ.out.2.2.1.same⟩, ⟨⟨HZ.out.2.2.2.1.1.os, HZ.out.2.2.2.1.1.tape, HZ.out.2.2.2.1.1.output, HZ.out.2.2.2.1.1.size, HZ.out.2.2.2.1.1.block⟩, HZ.out.2.2.2.1.2⟩, HZ.out.2.2.2.2, by show Coll _ _ _ _ _ (facV s (ksOf l) (pre ++ [x])) B w2 _; rw [E.out]; exact HZ.out.2.1⟩
                      exact AllReadyIn.nil
                    exact AllReadyIn.nil
                  exact AllReadyIn.nil
                exact AllReadyIn.nil
              exact AllReadyIn.nil
            exact AllReadyIn.nil
          exact AllReadyIn.nil
        refine AllReadyIn.cons rfl (fun K hK => ?_) ?_
        · go_simp
          refine hK _ _ ?_
          clear hK K
          refine wpAnyIn_ready (rs := [0, 3]) (by kernel_rfl) (by simp) ?_
          refine AllReadyIn.cons rfl (fun K hK => ?_) ?_
          · go_simp
            refine hK _ _ ?_
            clear hK K
            refine wpAnyIn_ready (rs := [3]) (by kernel_rfl) (by simp) ?_
            refine AllReadyIn.cons rfl (fun K hK => ?_) ?_
            · go_simp
              refine hK _ _ ?_
              clear hK K
              refine wpAnyIn_ready (rs := [4]) (by kernel_rfl) (by simp) ?_
              refine AllReadyIn.cons rfl (fun K hK => ?_) ?_
              · go_simp
                refine hK _ _ ?_
                clear hK K
                refine wpAnyIn_ready (rs := [5]) (by kernel_rfl) (by simp) ?_
                refine AllReadyIn.cons rfl (fun K hK => ?_) ?_
                · go_simp
                  refine hK _ _ ?_
                  clear hK K
                  refine wpAnyIn_ready (rs := [6]) (by kernel_rfl) (by simp) ?_
                  refine AllReadyIn.cons rfl (fun K hK => ?_) ?_
                  · go_simp
                    refine hK _ _ ?_
                    clear hK K
                    refine wpAnyIn_ready (rs := [7]) (by kernel_rfl) (by simp) ?_
                    refine AllReadyIn.cons rfl (fun K hK => ?_) ?_
                    · refine step_append_at_in _ rfl (.tmp 41) (.tmp 47) 37 rfl w2.heap.size 9 i0 (.string ⟨#[]⟩) 1 16 Tryz.underlying37 hi hz0 hz1 hz2 rfl (by decide) v _ _ (by simp [Act.eval]) (hAP.out.1.alloc _) ⟨W.heap.size, 0, none⟩ 1 1 [.string (s.extract x.val (q + 1))] (by simp [Act.eval]) rfl (cell_one_new _ _ _) (by simp [Value.oneCell']) (by unfold maxLen; omega) (by omega) (by simp; omega) ?_
                      intro v' w3 hown hg hat
                      have hCC := hAP.out.2.1.appended (n0 := ((w2.alloc (.cells #[.slice none 0 0] 37)).alloc (.cells #[.slice (some ⟨w.heap.size + 1 + 1 + 1, 0, none⟩) s.size s.size, .slice (some ⟨M, 0, none⟩) s.size s.size] 94)).heap.size) hAP.out.2.2 hAP.out.1 HO.out (by decide) (Nat.le_refl _) (by omega) (Nat.le_refl _) hown hg (by simpa using hat)
                      obtain ⟨g', c', rfl⟩ := ownsRow_succ hown
                      have hc1 := hCC.1.cell
                      have hf1 := hCC.1.frozen
                      have HCC := Lib.hid hCC
                      clear hCC hown hg hat
                      refine hK _ _ ?_
                      clear hK K
                      refine wpAnyIn_ready (rs := [8]) (by kernel_rfl) (by simp) ?_
                      refine AllReadyIn.cons rfl (fun K hK => ?_) ?_
                      · go_simp
                        refine hK _ _ ?_
                        clear hK K
                        refine wpAnyIn_done (by kernel_rfl) ?_ _
                        have HZ := HCC
                        gi_wp2
                        exact ⟨⟨HZ.out.2.2.1.size, HZ.out.2.2.1.same⟩, ⟨⟨HZ.out.2.2.2.1.1.os, HZ.out.2.2.2.1.1.tape, HZ.out.2.2.2.1.1.output, HZ.out.2.2.2.1.1.size, HZ.out.2.2.2.1.1.block⟩, HZ.out.2.2.2.1.2⟩, HZ.out.2.2.2.2, by show Coll _ _ _ _ _ (facV s (ksOf l) (pre ++ [x])) B w2 _; rw [E.out]; exact HZ.out.2.1⟩
                      exact AllReadyIn.nil
                    exact AllReadyIn.nil
                  exact AllReadyIn.nil
                exact AllReadyIn.nil
              exact AllReadyIn.nil
            exact AllReadyIn.nil
          refine AllReadyIn.cons rfl (fun K hK => ?_) ?_
          · go_simp
            refine hK _ _ ?_
            clear hK K
            refine wpAnyIn_ready (rs := [0, 4]) (by kernel_rfl) (by simp) ?_
            refine AllReadyIn.cons rfl (fun K hK => ?_) ?_
            · go_simp
              refine hK _ _ ?_
              clear hK K
              refine wpAnyIn_ready (rs := [4]) (by kernel_rfl) (by simp) ?_
              refine AllReadyIn.cons rfl (fun K hK => ?_) ?_
              · go_simp
                refine hK _ _ ?_
                clear hK K
                refine wpAnyIn_ready (rs := [5]) (by kernel_rfl) (by simp) ?_
                refine AllReadyIn.cons rfl (fun K hK => ?_) ?_
                · go_simp
                  refine hK _ _ ?_
                  clear hK K
                  refine wpAnyIn_ready (rs := [6]) (by kernel_rfl) (by simp) ?_
                  refine AllReadyIn.cons rfl (fun K hK => ?_) ?_
                  · go_simp
                    refine hK _ _ ?_
                    clear hK K
                    refine wpAnyIn_ready (rs := [7]) (by kernel_rfl) (by simp) ?_
                    refine AllReadyIn.cons rfl (fun K hK => ?_) ?_
                    · refine step_append_at_in _ rfl (.tmp 41) (.tmp 47) 37 rfl w2.heap.size 9 i0 (.string ⟨#[]⟩) 1 16 Tryz.underlying37 hi hz0 hz1 hz2 rfl (by decide) v _ _ (by simp [Act.eval]) (hAP.out.1.alloc _) ⟨W.heap.size, 0, none⟩ 1 1 [.string (s.extract x.val (q + 1))] (by simp [Act.eval]) rfl (cell_one_new _ _ _) (by simp [Value.oneCell']) (by unfold maxLen; omega) (by omega) (by simp; omega) ?_
                      intro v' w3 hown hg hat
                      have hCC := hAP.out.2.1.appended (n0 := ((w2.alloc (.cells #[.slice none 0 0] 37)).alloc (.cells #[.slice (some ⟨w.heap.size + 1 + 1 + 1, 0, none⟩) s.size s.size, .slice (some ⟨M, 0, none⟩) s.size s.size] 94)).heap.size) hAP.out.2.2 hAP.out.1 HO.out (by decide) (Nat.le_refl _) (by omega) (Nat.le_refl _) hown hg (by simpa using hat)
                      obtain ⟨g', c', rfl⟩ := ownsRow_succ hown
                      have hc1 := hCC.1.cell
                      have hf1 := hCC.1.frozen
                      have HCC := Lib.hid hCC
                      clear hCC hown hg hat
                      refine hK _ _ ?_
                      clear hK K
                      refine wpAnyIn_ready (rs := [8]) (by kernel_rfl) (by simp) ?_
                      refine AllReadyIn.cons rfl (fun K hK => ?_) ?_
                      · go_simp
                        refine hK _ _ ?_
                        clear hK K
                        refine wpAnyIn_done (by kernel_rfl) ?_ _
                        have HZ := HCC
                        gi_wp2
                        exact ⟨⟨HZ.out.2.2.1.size, HZ.out.2.2.1.same⟩, ⟨⟨HZ.out.2.2.2.1.1.os, HZ.out.2.2.2.1.1.tape, HZ.out.2.2.2.1.1.output, HZ.out.2.2.2.1.1.size, HZ.out.2.2.2.1.1.block⟩, HZ.out.2.2.2.1.2⟩, HZ.out.2.2.2.2, by show Coll _ _ _ _ _ (facV s (ksOf l) (pre ++ [x])) B w2 _; rw [E.out]; exact HZ.out.2.1⟩
                      exact AllReadyIn.nil
                    exact AllReadyIn.nil
                  exact AllReadyIn.nil
                exact AllReadyIn.nil
              exact AllReadyIn.nil
            refine AllReadyIn.cons rfl (fun K hK => ?_) ?_
            · go_simp
              refine hK _ _ ?_
              clear hK K
              refine wpAnyIn_ready (rs := [0, 5]) (by kernel_rfl) (by simp) ?_
              refine AllReadyIn.cons rfl (fun K hK => ?_) ?_
              · go_simp
                refine hK _ _ ?_
                clear hK K
                refine wpAnyIn_ready (rs := [5]) (by kernel_rfl) (by simp) ?_
                refine AllReadyIn.cons rfl (fun K hK => ?_) ?_
                · go_simp
                  refine hK _ _ ?_
                  clear hK K
                  refine wpAnyIn_ready (rs := [6]) (by kernel_rfl) (by simp) ?_
                  refine AllReadyIn.cons rfl (fun K hK => ?_) ?_
                  · go_simp
                    refine hK _ _ ?_
                    clear hK K
                    refine wpAnyIn_ready (rs := [7]) (by kernel_rfl) (by simp) ?_
                    refine AllReadyIn.cons rfl (fun K hK => ?_) ?_
                    · refine step_append_at_in _ rfl (.tmp 41) (.tmp 47) 37 rfl w2.heap.size 9 i0 (.string ⟨#[]⟩) 1 16 Tryz.underlying37 hi hz0 hz1 hz2 rfl (by decide) v _ _ (by simp [Act.eval]) (hAP.out.1.alloc _) ⟨W.heap.size, 0, none⟩ 1 1 [.string (s.extract x.val (q + 1))] (by simp [Act.eval]) rfl (cell_one_new _ _ _) (by simp [Value.oneCell']) (by unfold maxLen; omega) (by omega) (by simp; omega) ?_
                      intro v' w3 hown hg hat
                      have hCC := hAP.out.2.1.appended (n0 := ((w2.alloc (.cells #[.slice none 0 0] 37)).alloc (.cells #[.slice (some ⟨w.heap.size + 1 + 1 + 1, 0, none⟩) s.size s.size, .slice (some ⟨M, 0, none⟩) s.size s.size] 94)).heap.size) hAP.out.2.2 hAP.out.1 HO.out (by decide) (Nat.le_refl _) (by omega) (Nat.le_refl _) hown hg (by simpa using hat)
                      obtain ⟨g', c', rfl⟩ := ownsRow_succ hown
                      have hc1 := hCC.1.cell
                      have hf1 := hCC.1.frozen
                      have HCC := Lib.hid hCC
                      clear hCC hown hg hat
                      refine hK _ _ ?_
                      clear hK K
                      refine wpAnyIn_ready (rs := [8]) (by kernel_rfl) (by simp) ?_
                      refine AllReadyIn.cons rfl (fun K hK => ?_) ?_
                      · go_simp
                        refine hK _ _ ?_
                        clear hK K
                        refine wpAnyIn_done (by kernel_rfl) ?_ _
                        have HZ := HCC
                        gi_wp2
                        exact ⟨⟨HZ.out.2.2.1.size, HZ.out.2.2.1.same⟩, ⟨⟨HZ.out.2.2.2.1.1.os, HZ.out.2.2.2.1.1.tape, HZ.out.2.2.2.1.1.output, HZ.out.2.2.2.1.1.size, HZ.out.2.2.2.1.1.block⟩, HZ.out.2.2.2.1.2⟩, HZ.out.2.2.2.2, by show Coll _ _ _ _ _ (facV s (ksOf l) (pre ++ [x])) B w2 _; rw [E.out]; exact HZ.out.2.1⟩
                      exact AllReadyIn.nil
                    exact AllReadyIn.nil
                  exact AllReadyIn.nil
                exact AllReadyIn.nil
              refine AllReadyIn.cons rfl (fun K hK => ?_) ?_
              · go_simp
                refine hK _ _ ?_
                clear hK K
                refine wpAnyIn_ready (rs := [0, 6]) (by kernel_rfl) (by simp) ?_
                refine AllReadyIn.cons rfl (fun K hK => ?_) ?_
                · go_simp
                  refine hK _ _ ?_
                  clear hK K
                  refine wpAnyIn_ready (rs := [6]) (by kernel_rfl) (by simp) ?_
                  refine AllReadyIn.cons rfl (fun K hK => ?_) ?_
                  · go_simp
                    refine hK _ _ ?_
                    clear hK K
                    refine wpAnyIn_ready (rs := [7]) (by kernel_rfl) (by simp) ?_
                    refine AllReadyIn.cons rfl (fun K hK => ?_) ?_
                    · refine step_append_at_in _ rfl (.tmp 41) (.tmp 47) 37 rfl w2.heap.size 9 i0 (.string ⟨#[]⟩) 1 16 Tryz.underlying37 hi hz0 hz1 hz2 rfl (by decide) v _ _ (by simp [Act.eval]) (hAP.out.1.alloc _) ⟨W.heap.size, 0, none⟩ 1 1 [.string (s.extract x.val (q + 1))] (by simp [Act.eval]) rfl (cell_one_new _ _ _) (by simp [Value.oneCell']) (by unfold maxLen; omega) (by omega) (by simp; omega) ?_
                      intro v' w3 hown hg hat
                      have hCC := hAP.out.2.1.appended (n0 := ((w2.alloc (.cells #[.slice none 0 0] 37)).alloc (.cells #[.slice (some ⟨w.heap.size + 1 + 1 + 1, 0, none⟩) s.size s.size, .slice (some ⟨M, 0, none⟩) s.size s.size] 94)).heap.size) hAP.out.2.2 hAP.out.1 HO.out (by decide) (Nat.le_refl _) (by omega) (Nat.le_refl _) hown hg (by simpa using hat)
                      obtain ⟨g', c', rfl⟩ := ownsRow_succ hown
                      have hc1 := hCC.1.cell
                      have hf1 := hCC.1.frozen
                      have HCC := Lib.hid hCC
                      clear hCC hown hg hat
                      refine hK _ _ ?_
                      clear hK K
                      refine wpAnyIn_ready (rs := [8]) (by kernel_rfl) (by simp) ?_
                      refine AllReadyIn.cons rfl (fun K hK => ?_) ?_
                      · go_simp
                        refine hK _ _ ?_
                        clear hK K
                        refine wpAnyIn_done (by kernel_rfl) ?_ _
                        have HZ := HCC
                        gi_wp2
                        exact ⟨⟨HZ.out.2.2.1.size, HZ.out.2.2.1.same⟩, ⟨⟨HZ.out.2.2.2.1.1.os, HZ.out.2.2.2.1.1.tape, HZ.out.2.2.2.1.1.output, HZ.out.2.2.2.1.1.size, HZ.out.2.2.2.1.1.block⟩, HZ.out.2.2.2.1.2⟩, HZ.out.2.2.2.2, by show Coll _ _ _ _ _ (facV s (ksOf l) (pre ++ [x])) B w2 _; rw [E.out]; exact HZ.out.2.1⟩
                      exact AllReadyIn.nil
                    exact AllReadyIn.nil
                  exact AllReadyIn.nil
                refine AllReadyIn.cons rfl (fun K hK => ?_) ?_
                · go_simp
                  refine hK _ _ ?_
                  clear hK K
                  refine wpAnyIn_ready (rs := [0]) (by kernel_rfl) (by simp) ?_
                  refine AllReadyIn.cons rfl (fun K hK => ?_) ?_
                  · go_simp
                    refine hK _ _ ?_
                    clear hK K
                    refine wpAnyIn_ready (rs := [7]) (by kernel_rfl) (by simp) ?_
                    refine AllReadyIn.cons rfl (fun K hK => ?_) ?_
                    · refine step_append_at_in _ rfl (.tmp 41) (.tmp 47) 37 rfl w2.heap.size 9 i0 (.string ⟨#[]⟩) 1 16 Tryz.underlying37 hi hz0 hz1 hz2 rfl (by decide) v _ _ (by simp [Act.eval]) (hAP.out.1.alloc _) ⟨W.heap.size, 0, none⟩ 1 1 [.string (s.extract x.val (q + 1))] (by simp [Act.eval]) rfl (cell_one_new _ _ _) (by simp [Value.oneCell']) (by unfold maxLen; omega) (by omega) (by simp; omega) ?_
                      intro v' w3 hown hg hat
                      have hCC := hAP.out.2.1.appended (n0 := ((w2.alloc (.cells #[.slice none 0 0] 37)).alloc (.cells #[.slice (some ⟨w.heap.size + 1 + 1 + 1, 0, none⟩) s.size s.size, .slice (some ⟨M, 0, none⟩) s.size s.size] 94)).heap.size) hAP.out.2.2 hAP.out.1 HO.out (by decide) (Nat.le_refl _) (by omega) (Nat.le_refl _) hown hg (by simpa using hat)
                      obtain ⟨g', c', rfl⟩ := ownsRow_succ hown
                      have hc1 := hCC.1.cell
                      have hf1 := hCC.1.frozen
                      have HCC := Lib.hid hCC
                      clear hCC hown hg hat
                      refine hK _ _ ?_
                      clear hK K
                      refine wpAnyIn_ready (rs := [8]) (by kernel_rfl) (by simp) ?_
                      refine AllReadyIn.cons rfl (fun K hK => ?_) ?_
                      · go_simp
                        refine hK _ _ ?_
                        clear hK K
                        refine wpAnyIn_done (by kernel_rfl) ?_ _
                        have HZ := HCC
                        gi_wp2
                        exact ⟨⟨HZ.out.2.2.1.size, HZ.out.2.2.1.same⟩, ⟨⟨HZ.out.2.2.2.1.1.os, HZ.out.2.2.2.1.1.tape, HZ.out.2.2.2.1.1.output, HZ.out.2.2.2.1.1.size, HZ.out.2.2.2.1.1.block⟩, HZ.out.2.2.2.1.2⟩, HZ.out.2.2.2.2, by show Coll _ _ _ _ _ (facV s (ksOf l) (pre ++ [x])) B w2 _; rw [E.out]; exact HZ.out.2.1⟩
                      exact AllReadyIn.nil
                    exact AllReadyIn.nil
                  exact AllReadyIn.nil
                exact AllReadyIn.nil
              exact AllReadyIn.nil
            exact AllReadyIn.nil
          exact AllReadyIn.nil
        refine AllReadyIn.cons rfl (fun K hK => ?_) ?_
        · go_simp
          refine hK _ _ ?_
          clear hK K
          refine wpAnyIn_ready (rs := [0, 2, 4]) (by kernel_rfl) (by simp) ?_
          refine AllReadyIn.cons rfl (fun K hK => ?_) ?_
          · go_simp
            refine hK _ _ ?_
            clear hK K
            refine wpAnyIn_ready (rs := [2, 4]) (by kernel_rfl) (by simp) ?_
            refine AllReadyIn.cons rfl (fun K hK => ?_) ?_
            · go_simp
              refine hK _ _ ?_
              clear hK K
              refine wpAnyIn_ready (rs := [4]) (by kernel_rfl) (by simp) ?_
              refine AllReadyIn.cons rfl (fun K hK => ?_) ?_
              · go_simp
                refine hK _ _ ?_
                clear hK K
                refine wpAnyIn_ready (rs := [5]) (by kernel_rfl) (by simp) ?_
                refine AllReadyIn.cons rfl (fun K hK => ?_) ?_
                · go_simp
                  refine hK _ _ ?_
                  clear hK K
                  refine wpAnyIn_ready (rs := [6]) (by kernel_rfl) (by simp) ?_
                  refine AllReadyIn.cons rfl (fun K hK => ?_) ?_
                  · go_simp
                    refine hK _ _ ?_
                    clear hK K
                    refine wpAnyIn_ready (rs := [7]) (by kernel_rfl) (by simp) ?_
                    refine AllReadyIn.cons rfl (fun K hK => ?_) ?_
                    · refine step_append_at_in _ rfl (.tmp 41) (.tmp 47) 37 rfl w2.heap.size 9 i0 (.string ⟨#[]⟩) 1 16 Tryz.underlying37 hi hz0 hz1 hz2 rfl (by decide) v _ _ (by simp [Act.eval]) (hAP.out.1.alloc _) ⟨W.heap.size, 0, none⟩ 1 1 [.string (s.extract x.val (q + 1))] (by simp [Act.eval]) rfl (cell_one_new _ _ _) (by simp [Value.oneCell']) (by unfold maxLen; omega) (by omega) (by simp; omega) ?_
                      intro v' w3 hown hg hat
                      have hCC := hAP.out.2.1.appended (n0 := ((w2.alloc (.cells #[.slice none 0 0] 37)).alloc (.cells #[.slice (some ⟨w.heap.size + 1 + 1 + 1, 0, none⟩) s.size s.size, .slice (some ⟨M, 0, none⟩) s.size s.size] 94)).heap.size) hAP.out.2.2 hAP.out.1 HO.out (by decide) (Nat.le_refl _) (by omega) (Nat.le_refl _) hown hg (by simpa using hat)
                      obtain ⟨g', c', rfl⟩ := ownsRow_succ hown
                      have hc1 := hCC.1.cell
                      have hf1 := hCC.1.frozen
                      have HCC := Lib.hid hCC
                      clear hCC hown hg hat
                      refine hK _ _ ?_
                      clear hK K
                      refine wpAnyIn_ready (rs := [8]) (by kernel_rfl) (by simp) ?_
                      refine AllReadyIn.cons rfl (fun K hK => ?_) ?_
                      · go_simp
                        refine hK _ _ ?_
                        clear hK K
                        refine wpAnyIn_done (by kernel_rfl) ?_ _
                        have HZ := HCC
                        gi_wp2
                        exact ⟨⟨HZ.out.2.2.1.size, HZ.out.2.2.1.same⟩, ⟨⟨HZ.out.2.2.2.1.1.os, HZ.out.2.2.2.1.1.tape, HZ.out.2.2.2.1.1.output, HZ.out.2.2.2.1.1.size, HZ.out.2.2.2.1.1.block⟩, HZ.out.2.2.2.1.2⟩, HZ.out.2.2.2.2, by show Coll _ _ _ _ _ (facV s (ksOf l) (pre ++ [x])) B w2 _; rw [E.out]; exact HZ.out.2.1⟩
                      exact AllReadyIn.nil
                    exact AllReadyIn.nil
                  exact AllReadyIn.nil
                exact AllReadyIn.nil
              exact AllReadyIn.nil
            refine AllReadyIn.cons rfl (fun K hK => ?_) ?_
            · go_simp
              refine hK _ _ ?_
              clear hK K
              refine wpAnyIn_ready (rs := [2]) (by kernel_rfl) (by simp) ?_
              refine AllReadyIn.cons rfl (fun K hK => ?_) ?_
              · go_simp
                refine hK _ _ ?_
                clear hK K
                refine wpAnyIn_ready (rs := [5]) (by kernel_rfl) (by simp) ?_
                refine AllReadyIn.cons rfl (fun K hK => ?_) ?_
                · go_simp
                  refine hK _ _ ?_
                  clear hK K
                  refine wpAnyIn_ready (rs := [6]) (by kernel_rfl) (by simp) ?_
                  refine AllReadyIn.cons rfl (fun K hK => ?_) ?_
                  · go_simp
                    refine hK _ _ ?_
                    clear hK K
                    refine wpAnyIn_ready (rs := [7]) (by kernel_rfl) (by simp) ?_
                    refine AllReadyIn.cons rfl (fun K hK => ?_) ?_
                    · refine step_append_at_in _ rfl (.tmp 41) (.tmp 47) 37 rfl w2.heap.size 9 i0 (.string ⟨#[]⟩) 1 16 Tryz.underlying37 hi hz0 hz1 hz2 rfl (by decide) v _ _ (by simp [Act.eval]) (hAP.out.1.alloc _) ⟨W.heap.size, 0, none⟩ 1 1 [.string (s.extract x.val (q + 1))] (by simp [Act.eval]) rfl (cell_one_new _ _ _) (by simp [Value.oneCell']) (by unfold maxLen; omega) (by omega) (by simp; omega) ?_
                      intro v' w3 hown hg hat
                      have hCC := hAP.out.2.1.appended (n0 := ((w2.alloc (.cells #[.slice none 0 0] 37)).alloc (.cells #[.slice (some ⟨w.heap.size + 1 + 1 + 1, 0, none⟩) s.size s.size, .slice (some ⟨M, 0, none⟩) s.size s.size] 94)).heap.size) hAP.out.2.2 hAP.out.1 HO.out (by decide) (Nat.le_refl _) (by omega) (Nat.le_refl _) hown hg (by simpa using hat)
                      obtain ⟨g', c', rfl⟩ := ownsRow_succ hown
                      have hc1 := hCC.1.cell
                      have hf1 := hCC.1.frozen
                      have HCC := Lib.hid hCC
                      clear hCC hown hg hat
                      refine hK _ _ ?_
                      clear hK K
                      refine wpAnyIn_ready (rs := [8]) (by kernel_rfl) (by simp) ?_
                      refine AllReadyIn.cons rfl (fun K hK => ?_) ?_
                      · go_simp
                        refine hK _ _ ?_
                        clear hK K
                        refine wpAnyIn_done (by kernel_rfl) ?_ _
                        have HZ := HCC
                        gi_wp2
                        exact ⟨⟨HZ.out.2.2.1.size, HZ.out.2.2.1.same⟩, ⟨⟨HZ.out.2.2.2.1.1.os, HZ.out.2.2.2.1.1.tape, HZ.out.2.2.2.1.1.output, HZ.out.2.2.2.1.1.size, HZ.out.2.2.2.1.1.block⟩, HZ.out.2.2.2.1.2⟩, HZ.out.2.2.2.2, by show Coll _ _ _ _ _ (facV s (ksOf l) (pre ++ [x])) B w2 _; rw [E.out]; exact HZ.out.2.1⟩
                      exact AllReadyIn.nil
                    exact AllReadyIn.nil
                  exact AllReadyIn.nil
                exact AllReadyIn.nil
              exact AllReadyIn.nil
            exact AllReadyIn.nil
          refine AllReadyIn.cons rfl (fun K hK => ?_) ?_
          · go_simp
            refine hK _ _ ?_
            clear hK K
            refine wpAnyIn_ready (rs := [0, 4]) (by kernel_rfl) (by simp) ?_
            refine AllReadyIn.cons rfl (fun K hK => ?_) ?_
            · go_simp
              refine hK _ _ ?_
              clear hK K
              refine wpAnyIn_ready (rs := [4]) (by kernel_rfl) (by simp) ?_
              refine AllReadyIn.cons rfl (fun K hK => ?_) ?_
              · go_simp
                refine hK _ _ ?_
                clear hK K
                refine wpAnyIn_ready (rs := [5]) (by kernel_rfl) (by simp) ?_
                refine AllReadyIn.cons rfl (fun K hK => ?_) ?_
                · go_simp
                  refine hK _ _ ?_
                  clear hK K
                  refine wpAnyIn_ready (rs := [6]) (by kernel_rfl) (by simp) ?_
                  refine AllReadyIn.cons rfl (fun K hK => ?_) ?_
                  · go_simp
                    refine hK _ _ ?_
                    clear hK K
                    refine wpAnyIn_ready (rs := [7]) (by kernel_rfl) (by simp) ?_
                    refine AllReadyIn.cons rfl (fun K hK => ?_) ?_
                    · refine step_append_at_in _ rfl (.tmp 41) (.tmp 47) 37 rfl w2.heap.size 9 i0 (.string ⟨#[]⟩) 1 16 Tryz.underlying37 hi hz0 hz1 hz2 rfl (by decide) v _ _ (by simp [Act.eval]) (hAP.out.1.alloc _) ⟨W.heap.size, 0, none⟩ 1 1 [.string (s.extract x.val (q + 1))] (by simp [Act.eval]) rfl (cell_one_new _ _ _) (by simp [Value.oneCell']) (by unfold maxLen; omega) (by omega) (by simp; omega) ?_
                      intro v' w3 hown hg hat
                      have hCC := hAP.out.2.1.appended (n0 := ((w2.alloc (.cells #[.slice none 0 0] 37)).alloc (.cells #[.slice (some ⟨w.heap.size + 1 + 1 + 1, 0, none⟩) s.size s.size, .slice (some ⟨M, 0, none⟩) s.size s.size] 94)).heap.size) hAP.out.2.2 hAP.out.1 HO.out (by decide) (Nat.le_refl _) (by omega) (Nat.le_refl _) hown hg (by simpa using hat)
                      obtain ⟨g', c', rfl⟩ := ownsRow_succ hown
                      have hc1 := hCC.1.cell
                      have hf1 := hCC.1.frozen
                      have HCC := Lib.hid hCC
                      clear hCC hown hg hat
                      refine hK _ _ ?_
                      clear hK K
                      refine wpAnyIn_ready (rs := [8]) (by kernel_rfl) (by simp) ?_
                      refine AllReadyIn.cons rfl (fun K hK => ?_) ?_
                      · go_simp
                        refine hK _ _ ?_
                        clear hK K
                        refine wpAnyIn_done (by kernel_rfl) ?_ _
                        have HZ := HCC
                        gi_wp2
                        exact ⟨⟨HZ.out.2.2.1.size, HZ.out.2.2.1.same⟩, ⟨⟨HZ.out.2.2.2.1.1.os, HZ.out.2.2.2.1.1.tape, HZ.out.2.2.2.1.1.output, HZ.out.2.2.2.1.1.size, HZ.out.2.2.2.1.1.block⟩, HZ.out.2.2.2.1.2⟩, HZ.out.2.2.2.2, by show Coll _ _ _ _ _ (facV s (ksOf l) (pre ++ [x])) B w2 _; rw [E.out]; exact HZ.out.2.1⟩
                      exact AllReadyIn.nil
                    exact AllReadyIn.nil
                  exact AllReadyIn.nil
                exact AllReadyIn.nil
              exact AllReadyIn.nil
            refine AllReadyIn.cons rfl (fun K hK => ?_) ?_
            · go_simp
              refine hK _ _ ?_
              clear hK K
              refine wpAnyIn_ready (rs := [0, 5]) (by kernel_rfl) (by simp) ?_
              refine AllReadyIn.cons rfl (fun K hK => ?_) ?_
              · go_simp
                refine hK _ _ ?_
                clear hK K
                refine wpAnyIn_ready (rs := [5]) (by kernel_rfl) (by simp) ?_
                refine AllReadyIn.cons rfl (fun K hK => ?_) ?_
                · go_simp
                  refine hK _ _ ?_
                  clear hK K
                  refine wpAnyIn_ready (rs := [6]) (by kernel_rfl) (by simp) ?_
                  refine AllReadyIn.cons rfl (fun K hK => ?_) ?_
                  · go_simp
                    refine hK _ _ ?_
                    clear hK K
                    refine wpAnyIn_ready (rs := [7]) (by kernel_rfl) (by simp) ?_
                    refine AllReadyIn.cons rfl (fun K hK => ?_) ?_
                    · refine step_append_at_in _ rfl (.tmp 41) (.tmp 47) 37 rfl w2.heap.size 9 i0 (.string ⟨#[]⟩) 1 16 Tryz.underlying37 hi hz0 hz1 hz2 rfl (by decide) v _ _ (by simp [Act.eval]) (hAP.out.1.alloc _) ⟨W.heap.size, 0, none⟩ 1 1 [.string (s.extract x.val (q + 1))] (by simp [Act.eval]) rfl (cell_one_new _ _ _) (by simp [Value.oneCell']) (by unfold maxLen; omega) (by omega) (by simp; omega) ?_
                      intro v' w3 hown hg hat
                      have hCC := hAP.out.2.1.appended (n0 := ((w2.alloc (.cells #[.slice none 0 0] 37)).alloc (.cells #[.slice (some ⟨w.heap.size + 1 + 1 + 1, 0, none⟩) s.size s.size, .slice (some ⟨M, 0, none⟩) s.size s.size] 94)).heap.size) hAP.out.2.2 hAP.out.1 HO.out (by decide) (Nat.le_refl _) (by omega) (Nat.le_refl _) hown hg (by simpa using hat)
                      obtain ⟨g', c', rfl⟩ := ownsRow_succ hown
                      have hc1 := hCC.1.cell
                      have hf1 := hCC.1.frozen
                      have HCC := Lib.hid hCC
                      clear hCC hown hg hat
                      refine hK _ _ ?_
                      clear hK K
                      refine wpAnyIn_ready (rs := [8]) (by kernel_rfl) (by simp) ?_
                      refine AllReadyIn.cons rfl (fun K hK => ?_) ?_
                      · go_simp
                        refine hK _ _ ?_
                        clear hK K
                        refine wpAnyIn_done (by kernel_rfl) ?_ _
                        have HZ := HCC
                        gi_wp2
                        exact ⟨⟨HZ.out.2.2.1.size, HZ.out.2.2.1.same⟩, ⟨⟨HZ.out.2.2.2.1.1.os, HZ.out.2.2.2.1.1.tape, HZ.out.2.2.2.1.1.output, HZ.out.2.2.2.1.1.size, HZ.out.2.2.2.1.1.block⟩, HZ.out.2.2.2.1.2⟩, HZ.out.2.2.2.2, by show Coll _ _ _ _ _ (facV s (ksOf l) (pre ++ [x])) B w2 _; rw [E.out]; exact HZ.out.2.1⟩
                      exact AllReadyIn.nil
                    exact AllReadyIn.nil
                  exact AllReadyIn.nil
                exact AllReadyIn.nil
              refine AllReadyIn.cons rfl (fun K hK => ?_) ?_
              · go_simp
                refine hK _ _ ?_
                clear hK K
                refine wpAnyIn_ready (rs := [0, 6]) (by kernel_rfl) (by simp) ?_
                refine AllReadyIn.cons rfl (fun K hK => ?_) ?_
                · go_simp
                  refine hK _ _ ?_
                  clear hK K
                  refine wpAnyIn_ready (rs := [6]) (by kernel_rfl) (by simp) ?_
                  refine AllReadyIn.cons rfl (fun K hK => ?_) ?_
                  · go_simp
                    refine hK _ _ ?_
                    clear hK K
                    refine wpAnyIn_ready (rs := [7]) (by kernel_rfl) (by simp) ?_
                    refine AllReadyIn.cons rfl (fun K hK => ?_) ?_
                    · refine step_append_at_in _ rfl (.tmp 41) (.tmp 47) 37 rfl w2.heap.size 9 i0 (.string ⟨#[]⟩) 1 16 Tryz.underlying37 hi hz0 hz1 hz2 rfl (by decide) v _ _ (by simp [Act.eval]) (hAP.out.1.alloc _) ⟨W.heap.size, 0, none⟩ 1 1 [.string (s.extract x.val (q + 1))] (by simp [Act.eval]) rfl (cell_one_new _ _ _) (by simp [Value.oneCell']) (by unfold maxLen; omega) (by omega) (by simp; omega) ?_
                      intro v' w3 hown hg hat
                      have hCC := hAP.out.2.1.appended (n0 := ((w2.alloc (.cells #[.slice none 0 0] 37)).alloc (.cells #[.slice (some ⟨w.heap.size + 1 + 1 + 1, 0, none⟩) s.size s.size, .slice (some ⟨M, 0, none⟩) s.size s.size] 94)).heap.size) hAP.out.2.2 hAP.out.1 HO.out (by decide) (Nat.le_refl _) (by omega) (Nat.le_refl _) hown hg (by simpa using hat)
                      obtain ⟨g', c', rfl⟩ := ownsRow_succ hown
                      have hc1 := hCC.1.cell
                      have hf1 := hCC.1.frozen
                      have HCC := Lib.hid hCC
                      clear hCC hown hg hat
                      refine hK _ _ ?_
                      clear hK K
                      refine wpAnyIn_ready (rs := [8]) (by kernel_rfl) (by simp) ?_
                      refine AllReadyIn.cons rfl (fun K hK => ?_) ?_
                      · go_simp
                        refine hK _ _ ?_
                        clear hK K
                        refine wpAnyIn_done (by kernel_rfl) ?_ _
                        have HZ := HCC
                        gi_wp2
                        exact ⟨⟨HZ.out.2.2.1.size, HZ.out.2.2.1.same⟩, ⟨⟨HZ.out.2.2.2.1.1.os, HZ.out.2.2.2.1.1.tape, HZ.out.2.2.2.1.1.output, HZ.out.2.2.2.1.1.size, HZ.out.2.2.2.1.1.block⟩, HZ.out.2.2.2.1.2⟩, HZ.out.2.2.2.2, by show Coll _ _ _ _ _ (facV s (ksOf l) (pre ++ [x])) B w2 _; rw [E.out]; exact HZ.out.2.1⟩
                      exact AllReadyIn.nil
                    exact AllReadyIn.nil
                  exact AllReadyIn.nil
                refine AllReadyIn.cons rfl (fun K hK => ?_) ?_
                · go_simp
                  refine hK _ _ ?_
                  clear hK K
                  refine wpAnyIn_ready (rs := [0]) (by kernel_rfl) (by simp) ?_
                  refine AllReadyIn.cons rfl (fun K hK => ?_) ?_
                  · go_simp
                    refine hK _ _ ?_
                    clear hK K
                    refine wpAnyIn_ready (rs := [7]) (by kernel_rfl) (by simp) ?_
                    refine AllReadyIn.cons rfl (fun K hK => ?_) ?_
                    · refine step_append_at_in _ rfl (.tmp 41) (.tmp 47) 37 rfl w2.heap.size 9 i0 (.string ⟨#[]⟩) 1 16 Tryz.underlying37 hi hz0 hz1 hz2 rfl (by decide) v _ _ (by simp [Act.eval]) (hAP.out.1.alloc _) ⟨W.heap.size, 0, none⟩ 1 1 [.string (s.extract x.val (q + 1))] (by simp [Act.eval]) rfl (cell_one_new _ _ _) (by simp [Value.oneCell']) (by unfold maxLen; omega) (by omega) (by simp; omega) ?_
                      intro v' w3 hown hg hat
                      have hCC := hAP.out.2.1.appended (n0 := ((w2.alloc (.cells #[.slice none 0 0] 37)).alloc (.cells #[.slice (some ⟨w.heap.size + 1 + 1 + 1, 0, none⟩) s.size s.size, .slice (some ⟨M, 0, none⟩) s.size s.size] 94)).heap.size) hAP.out.2.2 hAP.out.1 HO.out (by decide) (Nat.le_refl _) (by omega) (Nat.le_refl _) hown hg (by simpa using hat)
                      obtain ⟨g', c', rfl⟩ := ownsRow_succ hown
                      have hc1 := hCC.1.cell
                      have hf1 := hCC.1.frozen
                      have HCC := Lib.hid hCC
                      clear hCC hown hg hat
                      refine hK _ _ ?_
                      clear hK K
                      refine wpAnyIn_ready (rs := [8]) (by kernel_rfl) (by simp) ?_
                      refine AllReadyIn.cons rfl (fun K hK => ?_) ?_
                      · go_simp
                        refine hK _ _ ?_
                        clear hK K
                        refine wpAnyIn_done (by kernel_rfl) ?_ _
                        have HZ := HCC
                        gi_wp2
                        exact ⟨⟨HZ.out.2.2.1.size, HZ.out.2.2.1.same⟩, ⟨⟨HZ.out.2.2.2.1.1.os, HZ.out.2.2.2.1.1.tape, HZ.out.2.2.2.1.1.output, HZ.out.2.2.2.1.1.size, HZ.out.2.2.2.1.1.block⟩, HZ.out.2.2.2.1.2⟩, HZ.out.2.2.2.2, by show Coll _ _ _ _ _ (facV s (ksOf l) (pre ++ [x])) B w2 _; rw [E.out]; exact HZ.out.2.1⟩
                      exact AllReadyIn.nil
                    exact AllReadyIn.nil
                  exact AllReadyIn.nil
                exact AllReadyIn.nil
              exact AllReadyIn.nil
            exact AllReadyIn.nil
          refine AllReadyIn.cons rfl (fun K hK => ?_) ?_
          · go_simp
            refine hK _ _ ?_
            clear hK K
            refine wpAnyIn_ready (rs := [0, 2]) (by kernel_rfl) (by simp) ?_
            refine AllReadyIn.cons rfl (fun K hK => ?_) ?_
            · go_simp
              refine hK _ _ ?_
              clear hK K
              refine wpAnyIn_ready (rs := [2]) (by kernel_rfl) (by simp) ?_
              refine AllReadyIn.cons rfl (fun K hK => ?_) ?_
              · go_simp
                refine hK _ _ ?_
                clear hK K
                refine wpAnyIn_ready (rs := [5]) (by kernel_rfl) (by simp) ?_
                refine AllReadyIn.cons rfl (fun K hK => ?_) ?_
                · go_simp
                  refine hK _ _ ?_
                  clear hK K
                  refine wpAnyIn_ready (rs := [6]) (by kernel_rfl) (by simp) ?_
                  refine AllReadyIn.cons rfl (fun K hK => ?_) ?_
                  · go_simp
                    refine hK _ _ ?_
                    clear hK K
                    refine wpAnyIn_ready (rs := [7]) (by kernel_rfl) (by simp) ?_
                    refine AllReadyIn.cons rfl (fun K hK => ?_) ?_
                    · refine step_append_at_in _ rfl (.tmp 41) (.tmp 47) 37 rfl w2.heap.size 9 i0 (.string ⟨#[]⟩) 1 16 Tryz.underlying37 hi hz0 hz1 hz2 rfl (by decide) v _ _ (by simp [Act.eval]) (hAP.out.1.alloc _) ⟨W.heap.size, 0, none⟩ 1 1 [.string (s.extract x.val (q + 1))] (by simp [Act.eval]) rfl (cell_one_new _ _ _) (by simp [Value.oneCell']) (by unfold maxLen; omega) (by omega) (by simp; omega) ?_
                      intro v' w3 hown hg hat
                      have hCC := hAP.out.2.1.appended (n0 := ((w2.alloc (.cells #[.slice none 0 0] 37)).alloc (.cells #[.slice (some ⟨w.heap.size + 1 + 1 + 1, 0, none⟩) s.size s.size, .slice (some ⟨M, 0, none⟩) s.size s.size] 94)).heap.size) hAP.out.2.2 hAP.out.1 HO.out (by decide) (Nat.le_refl _) (by omega) (Nat.le_refl _) hown hg (by simpa using hat)
                      obtain ⟨g', c', rfl⟩ := ownsRow_succ hown
                      have hc1 := hCC.1.cell
                      have hf1 := hCC.1.frozen
                      have HCC := Lib.hid hCC
                      clear hCC hown hg hat
                      refine hK _ _ ?_
                      clear hK K
                      refine wpAnyIn_ready (rs := [8]) (by kernel_rfl) (by simp) ?_
                      refine AllReadyIn.cons rfl (fun K hK => ?_) ?_
                      · go_simp
                        refine hK _ _ ?_
                        clear hK K
                        refine wpAnyIn_done (by kernel_rfl) ?_ _
                        have HZ := HCC
                        gi_wp2
                        exact ⟨⟨HZ.out.2.2.1.size, HZ.out.2.2.1.same⟩, ⟨⟨HZ.out.2.2.2.1.1.os, HZ.out.2.2.2.1.1.tape, HZ.out.2.2.2.1.1.output, HZ.out.2.2.2.1.1.size, HZ.out.2.2.2.1.1.block⟩, HZ.out.2.2.2.1.2⟩, HZ.out.2.2.2.2, by show Coll _ _ _ _ _ (facV s (ksOf l) (pre ++ [x])) B w2 _; rw [E.out]; exact HZ.out.2.1⟩
                      exact AllReadyIn.nil
                    exact AllReadyIn.nil
                  exact AllReadyIn.nil
                exact AllReadyIn.nil
              exact AllReadyIn.nil
            refine AllReadyIn.cons rfl (fun K hK => ?_) ?_
            · go_simp
              refine hK _ _ ?_
              clear hK K
              refine wpAnyIn_ready (rs := [0, 5]) (by kernel_rfl) (by simp) ?_
              refine AllReadyIn.cons rfl (fun K hK => ?_) ?_
              · go_simp
                refine hK _ _ ?_
                clear hK K
                refine wpAnyIn_ready (rs := [5]) (by kernel_rfl) (by simp) ?_
                refine AllReadyIn.cons rfl (fun K hK => ?_) ?_
                · go_simp
                  refine hK _ _ ?_
                  clear hK K
                  refine wpAnyIn_ready (rs := [6]) (by kernel_rfl) (by simp) ?_
                  refine AllReadyIn.cons rfl (fun K hK => ?_) ?_
                  · go_simp
                    refine hK _ _ ?_
                    clear hK K
                    refine wpAnyIn_ready (rs := [7]) (by kernel_rfl) (by simp) ?_
                    refine AllReadyIn.cons rfl (fun K hK => ?_) ?_
                    · refine step_append_at_in _ rfl (.tmp 41) (.tmp 47) 37 rfl w2.heap.size 9 i0 (.string ⟨#[]⟩) 1 16 Tryz.underlying37 hi hz0 hz1 hz2 rfl (by decide) v _ _ (by simp [Act.eval]) (hAP.out.1.alloc _) ⟨W.heap.size, 0, none⟩ 1 1 [.string (s.extract x.val (q + 1))] (by simp [Act.eval]) rfl (cell_one_new _ _ _) (by simp [Value.oneCell']) (by unfold maxLen; omega) (by omega) (by simp; omega) ?_
                      intro v' w3 hown hg hat
                      have hCC := hAP.out.2.1.appended (n0 := ((w2.alloc (.cells #[.slice none 0 0] 37)).alloc (.cells #[.slice (some ⟨w.heap.size + 1 + 1 + 1, 0, none⟩) s.size s.size, .slice (some ⟨M, 0, none⟩) s.size s.size] 94)).heap.size) hAP.out.2.2 hAP.out.1 HO.out (by decide) (Nat.le_refl _) (by omega) (Nat.le_refl _) hown hg (by simpa using hat)
                      obtain ⟨g', c', rfl⟩ := ownsRow_succ hown
                      have hc1 := hCC.1.cell
                      have hf1 := hCC.1.frozen
                      have HCC := Lib.hid hCC
                      clear hCC hown hg hat
                      refine hK _ _ ?_
                      clear hK K
                      refine wpAnyIn_ready (rs := [8]) (by kernel_rfl) (by simp) ?_
                      refine AllReadyIn.cons rfl (fun K hK => ?_) ?_
                      · go_simp
                        refine hK _ _ ?_
                        clear hK K
                        refine wpAnyIn_done (by kernel_rfl) ?_ _
                        have HZ := HCC
                        gi_wp2
                        exact ⟨⟨HZ.out.2.2.1.size, HZ.out.2.2.1.same⟩, ⟨⟨HZ.out.2.2.2.1.1.os, HZ.out.2.2.2.1.1.tape, HZ.out.2.2.2.1.1.output, HZ.out.2.2.2.1.1.size, HZ.out.2.2.2.1.1.block⟩, HZ.out.2.2.2.1.2⟩, HZ.out.2.2.2.2, by show Coll _ _ _ _ _ (facV s (ksOf l) (pre ++ [x])) B w2 _; rw [E.out]; exact HZ.out.2.1⟩
                      exact AllReadyIn.nil
                    exact AllReadyIn.nil
                  exact AllReadyIn.nil
                exact AllReadyIn.nil
              refine AllReadyIn.cons rfl (fun K hK => ?_) ?_
              · go_simp
                refine hK _ _ ?_
                clear hK K
                refine wpAnyIn_ready (rs := [0, 6]) (by kernel_rfl) (by simp) ?_
                refine AllReadyIn.cons rfl (fun K hK => ?_) ?_
                · go_simp
                  refine hK _ _ ?_
                  clear hK K
                  refine wpAnyIn_ready (rs := [6]) (by kernel_rfl) (by simp) ?_
                  refine AllReadyIn.cons rfl (fun K hK => ?_) ?_
                  · go_simp
                    refine hK _ _ ?_
                    clear hK K
                    refine wpAnyIn_ready (rs := [7]) (by kernel_rfl) (by simp) ?_
                    refine AllReadyIn.cons rfl (fun K hK => ?_) ?_
                    · refine step_append_at_in _ rfl (.tmp 41) (.tmp 47) 37 rfl w2.heap.size 9 i0 (.string ⟨#[]⟩) 1 16 Tryz.underlying37 hi hz0 hz1 hz2 rfl (by decide) v _ _ (by simp [Act.eval]) (hAP.out.1.alloc _) ⟨W.heap.size, 0, none⟩ 1 1 [.string (s.extract x.val (q + 1))] (by simp [Act.eval]) rfl (cell_one_new _ _ _) (by simp [Value.oneCell']) (by unfold maxLen; omega) (by omega) (by simp; omega) ?_
                      intro v' w3 hown hg hat
                      have hCC := hAP.out.2.1.appended (n0 := ((w2.alloc (.cells #[.slice none 0 0] 37)).alloc (.cells #[.slice (some ⟨w.heap.size + 1 + 1 + 1, 0, none⟩) s.size s.size, .slice (some ⟨M, 0, none⟩) s.size s.size] 94)).heap.size) hAP.out.2.2 hAP.out.1 HO.out (by decide) (Nat.le_refl _) (by omega) (Nat.le_refl _) hown hg (by simpa using hat)
                      obtain ⟨g', c', rfl⟩ := ownsRow_succ hown
                      have hc1 := hCC.1.cell
                      have hf1 := hCC.1.frozen
                      have HCC := Lib.hid hCC
                      clear hCC hown hg hat
                      refine hK _ _ ?_
                      clear hK K
                      refine wpAnyIn_ready (rs := [8]) (by kernel_rfl) (by simp) ?_
                      refine AllReadyIn.cons rfl (fun K hK => ?_) ?_
                      · go_simp
                        refine hK _ _ ?_
                        clear hK K
                        refine wpAnyIn_done (by kernel_rfl) ?_ _
                        have HZ := HCC
                        gi_wp2
                        exact ⟨⟨HZ.out.2.2.1.size, HZ.out.2.2.1.same⟩, ⟨⟨HZ.out.2.2.2.1.1.os, HZ.out.2.2.2.1.1.tape, HZ.out.2.2.2.1.1.output, HZ.out.2.2.2.1.1.size, HZ.out.2.2.2.1.1.block⟩, HZ.out.2.2.2.1.2⟩, HZ.out.2.2.2.2, by show Coll _ _ _ _ _ (facV s (ksOf l) (pre ++ [x])) B w2 _; rw [E.out]; exact HZ.out.2.1⟩
                      exact AllReadyIn.nil
                    exact AllReadyIn.nil
                  exact AllReadyIn.nil
                refine AllReadyIn.cons rfl (fun K hK => ?_) ?_
                · go_simp
                  refine hK _ _ ?_
                  clear hK K
                  refine wpAnyIn_ready (rs := [0]) (by kernel_rfl) (by simp) ?_
                  refine AllReadyIn.cons rfl (fun K hK => ?_) ?_
                  · go_simp
                    refine hK _ _ ?_
                    clear hK K
                    refine wpAnyIn_ready (rs := [7]) (by kernel_rfl) (by simp) ?_
                    refine AllReadyIn.cons rfl (fun K hK => ?_) ?_
                    · refine step_append_at_in _ rfl (.tmp 41) (.tmp 47) 37 rfl w2.heap.size 9 i0 (.string ⟨#[]⟩) 1 16 Tryz.underlying37 hi hz0 hz1 hz2 rfl (by decide) v _ _ (by simp [Act.eval]) (hAP.out.1.alloc _) ⟨W.heap.size, 0, none⟩ 1 1 [.string (s.extract x.val (q + 1))] (by simp [Act.eval]) rfl (cell_one_new _ _ _) (by simp [Value.oneCell']) (by unfold maxLen; omega) (by omega) (by simp; omega) ?_
                      intro v' w3 hown hg hat
                      have hCC := hAP.out.2.1.appended (n0 := ((w2.alloc (.cells #[.slice none 0 0] 37)).alloc (.cells #[.slice (some ⟨w.heap.size + 1 + 1 + 1, 0, none⟩) s.size s.size, .slice (some ⟨M, 0, none⟩) s.size s.size] 94)).heap.size) hAP.out.2.2 hAP.out.1 HO.out (by decide) (Nat.le_refl _) (by omega) (Nat.le_refl _) hown hg (by simpa using hat)
                      obtain ⟨g', c', rfl⟩ := ownsRow_succ hown
                      have hc1 := hCC.1.cell
                      have hf1 := hCC.1.frozen
                      have HCC := Lib.hid hCC
                      clear hCC hown hg hat
                      refine hK _ _ ?_
                      clear hK K
                      refine wpAnyIn_ready (rs := [8]) (by kernel_rfl) (by simp) ?_
                      refine AllReadyIn.cons rfl (fun K hK => ?_) ?_
                      · go_simp
                        refine hK _ _ ?_
                        clear hK K
                        refine wpAnyIn_done (by kernel_rfl) ?_ _
                        have HZ := HCC
                        gi_wp2
                        exact ⟨⟨HZ.out.2.2.1.size, HZ.out.2.2.1.same⟩, ⟨⟨HZ.out.2.2.2.1.1.os, HZ.out.2.2.2.1.1.tape, HZ.out.2.2.2.1.1.output, HZ.out.2.2.2.1.1.size, HZ.out.2.2.2.1.1.block⟩, HZ.out.2.2.2.1.2⟩, HZ.out.2.2.2.2, by show Coll _ _ _ _ _ (facV s (ksOf l) (pre ++ [x])) B w2 _; rw [E.out]; exact HZ.out.2.1⟩
                      exact AllReadyIn.nil
                    exact AllReadyIn.nil
                  exact AllReadyIn.nil
                exact AllReadyIn.nil
              exact AllReadyIn.nil
            exact AllReadyIn.nil
          exact AllReadyIn.nil
        exact AllReadyIn.nil
      refine AllReadyIn.cons rfl (fun K hK => ?_) ?_
      · go_simp
        refine hK _ _ ?_
        clear hK K
        refine wpAnyIn_ready (rs := [0, 1, 3]) (by kernel_rfl) (by simp) ?_
        refine AllReadyIn.cons rfl (fun K hK => ?_) ?_
        · go_simp
          refine hK _ _ ?_
          clear hK K
          refine wpAnyIn_ready (rs := [1, 3]) (by kernel_rfl) (by simp) ?_
          refine AllReadyIn.cons rfl (fun K hK => ?_) ?_
          · go_simp
            refine hK _ _ ?_
            clear hK K
            refine wpAnyIn_ready (rs := [3]) (by kernel_rfl) (by simp) ?_
            refine AllReadyIn.cons rfl (fun K hK => ?_) ?_
            · go_simp
              refine hK _ _ ?_
              clear hK K
              refine wpAnyIn_ready (rs := [4]) (by kernel_rfl) (by simp) ?_
              refine AllReadyIn.cons rfl (fun K hK => ?_) ?_
              · go_simp
                refine hK _ _ ?_
                clear hK K
                refine wpAnyIn_ready (rs := [5]) (by kernel_rfl) (by simp) ?_
                refine AllReadyIn.cons rfl (fun K hK => ?_) ?_
                · go_simp
                  refine hK _ _ ?_
                  clear hK K
                  refine wpAnyIn_ready (rs := [6]) (by kernel_rfl) (by simp) ?_
                  refine AllReadyIn.cons rfl (fun K hK => ?_) ?_
                  · go_simp
                    refine hK _ _ ?_
                    clear hK K
                    refine wpAnyIn_ready (rs := [7]) (by kernel_rfl) (by simp) ?_
                    refine AllReadyIn.cons rfl (fun K hK => ?_) ?_
                    · refine step_append_at_in _ rfl (.tmp 41) (.tmp 47) 37 rfl w2.heap.size 9 i0 (.string ⟨#[]⟩) 1 16 Tryz.underlying37 hi hz0 hz1 hz2 rfl (by decide) v _ _ (by simp [Act.eval]) (hAP.out.1.alloc _) ⟨W.heap.size, 0, none⟩ 1 1 [.string (s.extract x.val (q + 1))] (by simp [Act.eval]) rfl (cell_one_new _ _ _) (by simp [Value.oneCell']) (by unfold maxLen; omega) (by omega) (by simp; omega) ?_
                      intro v' w3 hown hg hat
                      have hCC := hAP.out.2.1.appended (n0 := ((w2.alloc (.cells #[.slice none 0 0] 37)).alloc (.cells #[.slice (some ⟨w.heap.size + 1 + 1 + 1, 0, none⟩) s.size s.size, .slice (some ⟨M, 0, none⟩) s.size s.size] 94)).heap.size) hAP.out.2.2 hAP.out.1 HO.out (by decide) (Nat.le_refl _) (by omega) (Nat.le_refl _) hown hg (by simpa using hat)
                      obtain ⟨g', c', rfl⟩ := ownsRow_succ hown
                      have hc1 := hCC.1.cell
                      have hf1 := hCC.1.frozen
                      have HCC := Lib.hid hCC
                      clear hCC hown hg hat
                      refine hK _ _ ?_
                      clear hK K
                      refine wpAnyIn_ready (rs := [8]) (by kernel_rfl) (by simp) ?_
                      refine AllReadyIn.cons rfl (fun K hK => ?_) ?_
                      · go_simp
                        refine hK _ _ ?_
                        clear hK K
                        refine wpAnyIn_done (by kernel_rfl) ?_ _
                        have HZ := HCC
                        gi_wp2
                        exact ⟨⟨HZ.out.2.2.1.size, HZ.out.2.2.1.same⟩, ⟨⟨HZ.out.2.2.2.1.1.os, HZ.out.2.2.2.1.1.tape, HZ.out.2.2.2.1.1.output, HZ.out.2.2.2.1.1.size, HZ.out.2.2.2.1.1.block⟩, HZ.out.2.2.2.1.2⟩, HZ.out.2.2.2.2, by show Coll _ _ _ _ _ (facV s (ksOf l) (pre ++ [x])) B w2 _; rw [E.out]; exact HZ.out.2.1⟩
                      exact AllReadyIn.nil
                    exact AllReadyIn.nil
                  exact AllReadyIn.nil
                exact AllReadyIn.nil
              exact AllReadyIn.nil
            exact AllReadyIn.nil
          refine AllReadyIn.cons rfl (fun K hK => ?_) ?_
          · go_simp
            refine hK _ _ ?_
            clear hK K
            refine wpAnyIn_ready (rs := [1, 4]) (by kernel_rfl) (by simp) ?_
            refine AllReadyIn.cons rfl (fun K hK => ?_) ?_
            · go_simp
              refine hK _ _ ?_
              clear hK K
              refine wpAnyIn_ready (rs := [4]) (by kernel_rfl) (by simp) ?_
              refine AllReadyIn.cons rfl (fun K hK => ?_) ?_
              · go_simp
                refine hK _ _ ?_
                clear hK K
                refine wpAnyIn_ready (rs := [5]) (by kernel_rfl) (by simp) ?_
                refine AllReadyIn.cons rfl (fun K hK => ?_) ?_
                · go_simp
                  refine hK _ _ ?_
                  clear hK K
                  refine wpAnyIn_ready (rs := [6]) (by kernel_rfl) (by simp) ?_
                  refine AllReadyIn.cons rfl (fun K hK => ?_) ?_
                  · go_simp
                    refine hK _ _ ?_
                    clear hK K
                    refine wpAnyIn_ready (rs := [7]) (by kernel_rfl) (by simp) ?_
                    refine AllReadyIn.cons rfl (fun K hK => ?_) ?_
                    · refine step_append_at_in _ rfl (.tmp 41) (.tmp 47) 37 rfl w2.heap.size 9 i0 (.string ⟨#[]⟩) 1 16 Tryz.underlying37 hi hz0 hz1 hz2 rfl (by decide) v _ _ (by simp [Act.eval]) (hAP.out.1.alloc _) ⟨W.heap.size, 0, none⟩ 1 1 [.string (s.extract x.val (q + 1))] (by simp [Act.eval]) rfl (cell_one_new _ _ _) (by simp [Value.oneCell']) (by unfold maxLen; omega) (by omega) (by simp; omega) ?_
                      intro v' w3 hown hg hat
                      have hCC := hAP.out.2.1.appended (n0 := ((w2.alloc (.cells #[.slice none 0 0] 37)).alloc (.cells #[.slice (some ⟨w.heap.size + 1 + 1 + 1, 0, none⟩) s.size s.size, .slice (some ⟨M, 0, none⟩) s.size s.size] 94)).heap.size) hAP.out.2.2 hAP.out.1 HO.out (by decide) (Nat.le_refl _) (by omega) (Nat.le_refl _) hown hg (by simpa using hat)
                      obtain ⟨g', c', rfl⟩ := ownsRow_succ hown
                      have hc1 := hCC.1.cell
                      have hf1 := hCC.1.frozen
                      have HCC := Lib.hid hCC
                      clear hCC hown hg hat
                      refine hK _ _ ?_
                      clear hK K
                      refine wpAnyIn_ready (rs := [8]) (by kernel_rfl) (by simp) ?_
                      refine AllReadyIn.cons rfl (fun K hK => ?_) ?_
                      · go_simp
                        refine hK _ _ ?_
                        clear hK K
                        refine wpAnyIn_done (by kernel_rfl) ?_ _
                        have HZ := HCC
                        gi_wp2
                        exact ⟨⟨HZ.out.2.2.1.size, HZ.out.2.2.1.same⟩, ⟨⟨HZ.out.2.2.2.1.1.os, HZ.out.2.2.2.1.1.tape, HZ.out.2.2.2.1.1.output, HZ.out.2.2.2.1.1.size, HZ.out.2.2.2.1.1.block⟩, HZ.out.2.2.2.1.2⟩, HZ.out.2.2.2.2, by show Coll _ _ _ _ _ (facV s (ksOf l) (pre ++ [x])) B w2 _; rw [E.out]; exact HZ.out.2.1⟩
                      exact AllReadyIn.nil
                    exact AllReadyIn.nil
                  exact AllReadyIn.nil
                exact AllReadyIn.nil
              exact AllReadyIn.nil
            refine AllReadyIn.cons rfl (fun K hK => ?_) ?_
            · go_simp
              refine hK _ _ ?_
              clear hK K
              refine wpAnyIn_ready (rs := [1]) (by kernel_rfl) (by simp) ?_
              refine AllReadyIn.cons rfl (fun K hK => ?_) ?_
              · go_simp
                refine hK _ _ ?_
                clear hK K
                refine wpAnyIn_ready (rs := [5]) (by kernel_rfl) (by simp) ?_
                refine AllReadyIn.cons rfl (fun K hK => ?_) ?_
                · go_simp
                  refine hK _ _ ?_
                  clear hK K
                  refine wpAnyIn_ready (rs := [6]) (by kernel_rfl) (by simp) ?_
                  refine AllReadyIn.cons rfl (fun K hK => ?_) ?_
                  · go_simp
                    refine hK _ _ ?_
                    clear hK K
                    refine wpAnyIn_ready (rs := [7]) (by kernel_rfl) (by simp) ?_
                    refine AllReadyIn.cons rfl (fun K hK => ?_) ?_
                    · refine step_append_at_in _ rfl (.tmp 41) (.tmp 47) 37 rfl w2.heap.size 9 i0 (.string ⟨#[]⟩) 1 16 Tryz.underlying37 hi hz0 hz1 hz2 rfl (by decide) v _ _ (by simp [Act.eval]) (hAP.out.1.alloc _) ⟨W.heap.size, 0, none⟩ 1 1 [.string (s.extract x.val (q + 1))] (by simp [Act.eval]) rfl (cell_one_new _ _ _) (by simp [Value.oneCell']) (by unfold maxLen; omega) (by omega) (by simp; omega) ?_
                      intro v' w3 hown hg hat
                      have hCC := hAP.out.2.1.appended (n0 := ((w2.alloc (.cells #[.slice none 0 0] 37)).alloc (.cells #[.slice (some ⟨w.heap.size + 1 + 1 + 1, 0, none⟩) s.size s.size, .slice (some ⟨M, 0, none⟩) s.size s.size] 94)).heap.size) hAP.out.2.2 hAP.out.1 HO.out (by decide) (Nat.le_refl _) (by omega) (Nat.le_refl _) hown hg (by simpa using hat)
                      obtain ⟨g', c', rfl⟩ := ownsRow_succ hown
                      have hc1 := hCC.1.cell
                      have hf1 := hCC.1.frozen
                      have HCC := Lib.hid hCC
                      clear hCC hown hg hat
                      refine hK _ _ ?_
                      clear hK K
                      refine wpAnyIn_ready (rs := [8]) (by kernel_rfl) (by simp) ?_
                      refine AllReadyIn.cons rfl (fun K hK => ?_) ?_
                      · go_simp
                        refine hK _ _ ?_
                        clear hK K
                        refine wpAnyIn_done (by kernel_rfl) ?_ _
                        have HZ := HCC
                        gi_wp2
                        exact ⟨⟨HZ.out.2.2.1.size, HZ.out.2.2.1.same⟩, ⟨⟨HZ.out.2.2.2.1.1.os, HZ.out.2.2.2.1.1.tape, HZ.out.2.2.2.1.1.output, HZ.out.2.2.2.1.1.size, HZ.out.2.2.2.1.1.block⟩, HZ.out.2.2.2.1.2⟩, HZ.out.2.2.2.2, by show Coll _ _ _ _ _ (facV s (ksOf l) (pre ++ [x])) B w2 _; rw [E.out]; exact HZ.out.2.1⟩
                      exact AllReadyIn.nil
                    exact AllReadyIn.nil
                  exact AllReadyIn.nil
                exact AllReadyIn.nil
              exact AllReadyIn.nil
            exact AllReadyIn.nil
          exact AllReadyIn.nil
        refine AllReadyIn.cons rfl (fun K hK => ?_) ?_
        · go_simp
          refine hK _ _ ?_
          clear hK K
          refine wpAnyIn_ready (rs := [0, 3]) (by kernel_rfl) (by simp) ?_
          refine AllReadyIn.cons rfl (fun K hK => ?_) ?_
          · go_simp
            refine hK _ _ ?_
            clear hK K
            refine wpAnyIn_ready (rs := [3]) (by kernel_rfl) (by simp) ?_
            refine AllReadyIn.cons rfl (fun K hK => ?_) ?_
            · go_simp
              refine hK _ _ ?_
              clear hK K
              refine wpAnyIn_ready (rs := [4]) (by kernel_rfl) (by simp) ?_
              refine AllReadyIn.cons rfl (fun K hK => ?_) ?_
              · go_simp
                refine hK _ _ ?_
                clear hK K
                refine wpAnyIn_ready (rs := [5]) (by kernel_rfl) (by simp) ?_
                refine AllReadyIn.cons rfl (fun K hK => ?_) ?_
                · go_simp
                  refine hK _ _ ?_
                  clear hK K
                  refine wpAnyIn_ready (rs := [6]) (by kernel_rfl) (by simp) ?_
                  refine AllReadyIn.cons rfl (fun K hK => ?_) ?_
                  · go_simp
                    refine hK _ _ ?_
                    clear hK K
                    refine wpAnyIn_ready (rs := [7]) (by kernel_rfl) (by simp) ?_
                    refine AllReadyIn.cons rfl (fun K hK => ?_) ?_
                    · refine step_append_at_in _ rfl (.tmp 41) (.tmp 47) 37 rfl w2.heap.size 9 i0 (.string ⟨#[]⟩) 1 16 Tryz.underlying37 hi hz0 hz1 hz2 rfl (by decide) v _ _ (by simp [Act.eval]) (hAP.out.1.alloc _) ⟨W.heap.size, 0, none⟩ 1 1 [.string (s.extract x.val (q + 1))] (by simp [Act.eval]) rfl (cell_one_new _ _ _) (by simp [Value.oneCell']) (by unfold maxLen; omega) (by omega) (by simp; omega) ?_
                      intro v' w3 hown hg hat
                      have hCC := hAP.out.2.1.appended (n0 := ((w2.alloc (.cells #[.slice none 0 0] 37)).alloc (.cells #[.slice (some ⟨w.heap.size + 1 + 1 + 1, 0, none⟩) s.size s.size, .slice (some ⟨M, 0, none⟩) s.size s.size] 94)).heap.size) hAP.out.2.2 hAP.out.1 HO.out (by decide) (Nat.le_refl _) (by omega) (Nat.le_refl _) hown hg (by simpa using hat)
                      obtain ⟨g', c', rfl⟩ := ownsRow_succ hown
                      have hc1 := hCC.1.cell
                      have hf1 := hCC.1.frozen
                      have HCC := Lib.hid hCC
                      clear hCC hown hg hat
                      refine hK _ _ ?_
                      clear hK K
                      refine wpAnyIn_ready (rs := [8]) (by kernel_rfl) (by simp) ?_
                      refine AllReadyIn.cons rfl (fun K hK => ?_) ?_
                      · go_simp
                        refine hK _ _ ?_
                        clear hK K
                        refine wpAnyIn_done (by kernel_rfl) ?_ _
                        have HZ := HCC
                        gi_wp2
                        exact ⟨⟨HZ.out.2.2.1.size, HZ.out.2.2.1.same⟩, ⟨⟨HZ.out.2.2.2.1.1.os, HZ.out.2.2.2.1.1.tape, HZ.out.2.2.2.1.1.output, HZ.out.2.2.2.1.1.size, HZ.out.2.2.2.1.1.block⟩, HZ.out.2.2.2.1.2⟩, HZ.out.2.2.2.2, by show Coll _ _ _ _ _ (facV s (ksOf l) (pre ++ [x])) B w2 _; rw [E.out]; exact HZ.out.2.1⟩
                      exact AllReadyIn.nil
                    exact AllReadyIn.nil
                  exact AllReadyIn.nil
                exact AllReadyIn.nil
              exact AllReadyIn.nil
            exact AllReadyIn.nil
          refine AllReadyIn.cons rfl (fun K hK => ?_) ?_
          · go_simp
            refine hK _ _ ?_
            clear hK K
            refine wpAnyIn_ready (rs := [0, 4]) (by kernel_rfl) (by simp) ?_
            refine AllReadyIn.cons rfl (fun K hK => ?_) ?_
            · go_simp
              refine hK _ _ ?_
              clear hK K
              refine wpAnyIn_ready (rs := [4]) (by kernel_rfl) (by simp) ?_
              refine AllReadyIn.cons rfl (fun K hK => ?_) ?_
              · go_simp
                refine hK _ _ ?_
                clear hK K
                refine wpAnyIn_ready (rs := [5]) (by kernel_rfl) (by simp) ?_
                refine AllReadyIn.cons rfl (fun K hK => ?_) ?_
                · go_simp
                  refine hK _ _ ?_
                  clear hK K
                  refine wpAnyIn_ready (rs := [6]) (by kernel_rfl) (by simp) ?_
                  refine AllReadyIn.cons rfl (fun K hK => ?_) ?_
                  · go_simp
                    refine hK _ _ ?_
                    clear hK K
                    refine wpAnyIn_ready (rs := [7]) (by kernel_rfl) (by simp) ?_
                    refine AllReadyIn.cons rfl (fun K hK => ?_) ?_
                    · refine step_append_at_in _ rfl (.tmp 41) (.tmp 47) 37 rfl w2.heap.size 9 i0 (.string ⟨#[]⟩) 1 16 Tryz.underlying37 hi hz0 hz1 hz2 rfl (by decide) v _ _ (by simp [Act.eval]) (hAP.out.1.alloc _) ⟨W.heap.size, 0, none⟩ 1 1 [.string (s.extract x.val (q + 1))] (by simp [Act.eval]) rfl (cell_one_new _ _ _) (by simp [Value.oneCell']) (by unfold maxLen; omega) (by omega) (by simp; omega) ?_
                      intro v' w3 hown hg hat
                      have hCC := hAP.out.2.1.appended (n0 := ((w2.alloc (.cells #[.slice none 0 0] 37)).alloc (.cells #[.slice (some ⟨w.heap.size + 1 + 1 + 1, 0, none⟩) s.size s.size, .slice (some ⟨M, 0, none⟩) s.size s.size] 94)).heap.size) hAP.out.2.2 hAP.out.1 HO.out (by decide) (Nat.le_refl _) (by omega) (Nat.le_refl _) hown hg (by simpa using hat)
                      obtain ⟨g', c', rfl⟩ := ownsRow_succ hown
                      have hc1 := hCC.1.cell
                      have hf1 := hCC.1.frozen
                      have HCC := Lib.hid hCC
                      clear hCC hown hg hat
                      refine hK _ _ ?_
                      clear hK K
                      refine wpAnyIn_ready (rs := [8]) (by kernel_rfl) (by simp) ?_
                      refine AllReadyIn.cons rfl (fun K hK => ?_) ?_
                      · go_simp
                        refine hK _ _ ?_
                        clear hK K
                        refine wpAnyIn_done (by kernel_rfl) ?_ _
                        have HZ := HCC
                        gi_wp2
                        exact ⟨⟨HZ.out.2.2.1.size, HZ.out.2.2.1.same⟩, ⟨⟨HZ.out.2.2.2.1.1.os, HZ.out.2.2.2.1.1.tape, HZ.out.2.2.2.1.1.output, HZ.out.2.2.2.1.1.size, HZ.out.2.2.2.1.1.block⟩, HZ.out.2.2.2.1.2⟩, HZ.out.2.2.2.2, by show Coll _ _ _ _ _ (facV s (ksOf l) (pre ++ [x])) B w2 _; rw [E.out]; exact HZ.out.2.1⟩
                      exact AllReadyIn.nil
                    exact AllReadyIn.nil
                  exact AllReadyIn.nil
                exact AllReadyIn.nil
              exact AllReadyIn.nil
            refine AllReadyIn.cons rfl (fun K hK => ?_) ?_
            · go_simp
              refine hK _ _ ?_
              clear hK K
              refine wpAnyIn_ready (rs := [0, 5]) (by kernel_rfl) (by simp) ?_
              refine AllReadyIn.cons rfl (fun K hK => ?_) ?_
              · go_simp
                refine hK _ _ ?_
                clear hK K
                refine wpAnyIn_ready (rs := [5]) (by kernel_rfl) (by simp) ?_
                refine AllReadyIn.cons rfl (fun K hK => ?_) ?_
                · go_simp
                  refine hK _ _ ?_
                  clear hK K
                  refine wpAnyIn_ready (rs := [6]) (by kernel_rfl) (by simp) ?_
                  refine AllReadyIn.cons rfl (fun K hK => ?_) ?_
                  · go_simp
                    refine hK _ _ ?_
                    clear hK K
                    refine wpAnyIn_ready (rs := [7]) (by kernel_rfl) (by simp) ?_
                    refine AllReadyIn.cons rfl (fun K hK => ?_) ?_
                    · refine step_append_at_in _ rfl (.tmp 41) (.tmp 47) 37 rfl w2.heap.size 9 i0 (.string ⟨#[]⟩) 1 16 Tryz.underlying37 hi hz0 hz1 hz2 rfl (by decide) v _ _ (by simp [Act.eval]) (hAP.out.1.alloc _) ⟨W.heap.size, 0, none⟩ 1 1 [.string (s.extract x.val (q + 1))] (by simp [Act.eval]) rfl (cell_one_new _ _ _) (by simp [Value.oneCell']) (by unfold maxLen; omega) (by omega) (by simp; omega) ?_
                      intro v' w3 hown hg hat
                      have hCC := hAP.out.2.1.appended (n0 := ((w2.alloc (.cells #[.slice none 0 0] 37)).alloc (.cells #[.slice (some ⟨w.heap.size + 1 + 1 + 1, 0, none⟩) s.size s.size, .slice (some ⟨M, 0, none⟩) s.size s.size] 94)).heap.size) hAP.out.2.2 hAP.out.1 HO.out (by decide) (Nat.le_refl _) (by omega) (Nat.le_refl _) hown hg (by simpa using hat)
                      obtain ⟨g', c', rfl⟩ := ownsRow_succ hown
                      have hc1 := hCC.1.cell
                      have hf1 := hCC.1.frozen
                      have HCC := Lib.hid hCC
                      clear hCC hown hg hat
                      refine hK _ _ ?_
                      clear hK K
                      refine wpAnyIn_ready (rs := [8]) (by kernel_rfl) (by simp) ?_
                      refine AllReadyIn.cons rfl (fun K hK => ?_) ?_
                      · go_simp
                        refine hK _ _ ?_
                        clear hK K
                        refine wpAnyIn_done (by kernel_rfl) ?_ _
                        have HZ := HCC
                        gi_wp2
                        exact ⟨⟨HZ.out.2.2.1.size, HZ.out.2.2.1.same⟩, ⟨⟨HZ.out.2.2.2.1.1.os, HZ.out.2.2.2.1.1.tape, HZ.out.2.2.2.1.1.output, HZ.out.2.2.2.1.1.size, HZ.out.2.2.2.1.1.block⟩, HZ.out.2.2.2.1.2⟩, HZ.out.2.2.2.2, by show Coll _ _ _ _ _ (facV s (ksOf l) (pre ++ [x])) B w2 _; rw [E.out]; exact HZ.out.2.1⟩
                      exact AllReadyIn.nil
                    exact AllReadyIn.nil
                  exact AllReadyIn.nil
                exact AllReadyIn.nil
              refine AllReadyIn.cons rfl (fun K hK => ?_) ?_
              · go_simp
                refine hK _ _ ?_
                clear hK K
                refine wpAnyIn_ready (rs := [0, 6]) (by kernel_rfl) (by simp) ?_
                refine AllReadyIn.cons rfl (fun K hK => ?_) ?_
                · go_simp
                  refine hK _ _ ?_
                  clear hK K
                  refine wpAnyIn_ready (rs := [6]) (by kernel_rfl) (by simp) ?_
                  refine AllReadyIn.cons rfl (fun K hK => ?_) ?_
                  · go_simp
                    refine hK _ _ ?_
                    clear hK K
                    refine wpAnyIn_ready (rs := [7]) (by kernel_rfl) (by simp) ?_
                    refine AllReadyIn.cons rfl (fun K hK => ?_) ?_
                    · refine step_append_at_in _ rfl (.tmp 41) (.tmp 47) 37 rfl w2.heap.size 9 i0 (.string ⟨#[]⟩) 1 16 Tryz.underlying37 hi hz0 hz1 hz2 rfl (by decide) v _ _ (by simp [Act.eval]) (hAP.out.1.alloc _) ⟨W.heap.size, 0, none⟩ 1 1 [.string (s.extract x.val (q + 1))] (by simp [Act.eval]) rfl (cell_one_new _ _ _) (by simp [Value.oneCell']) (by unfold maxLen; omega) (by omega) (by simp; omega) ?_
                      intro v' w3 hown hg hat
                      have hCC := hAP.out.2.1.appended (n0 := ((w2.alloc (.cells #[.slice none 0 0] 37)).alloc (.cells #[.slice (some ⟨w.heap.size + 1 + 1 + 1, 0, none⟩) s.size s.size, .slice (some ⟨M, 0, none⟩) s.size s.size] 94)).heap.size) hAP.out.2.2 hAP.out.1 HO.out (by decide) (Nat.le_refl _) (by omega) (Nat.le_refl _) hown hg (by simpa using hat)
                      obtain ⟨g', c', rfl⟩ := ownsRow_succ hown
                      have hc1 := hCC.1.cell
                      have hf1 := hCC.1.frozen
                      have HCC := Lib.hid hCC
                      clear hCC hown hg hat
                      refine hK _ _ ?_
                      clear hK K
                      refine wpAnyIn_ready (rs := [8]) (by kernel_rfl) (by simp) ?_
                      refine AllReadyIn.cons rfl (fun K hK => ?_) ?_
                      · go_simp
                        refine hK _ _ ?_
                        clear hK K
                        refine wpAnyIn_done (by kernel_rfl) ?_ _
                        have HZ := HCC
                        gi_wp2
                        exact ⟨⟨HZ.out.2.2.1.size, HZ.out.2.2.1.same⟩, ⟨⟨HZ.out.2.2.2.1.1.os, HZ.out.2.2.2.1.1.tape, HZ.out.2.2.2.1.1.output, HZ.out.2.2.2.1.1.size, HZ.out.2.2.2.1.1.block⟩, HZ.out.2.2.2.1.2⟩, HZ.out.2.2.2.2, by show Coll _ _ _ _ _ (facV s (ksOf l) (pre ++ [x])) B w2 _; rw [E.out]; exact HZ.out.2.1⟩
                      exact AllReadyIn.nil
                    exact AllReadyIn.nil
                  exact AllReadyIn.nil
                refine AllReadyIn.cons rfl (fun K hK => ?_) ?_
                · go_simp
                  refine hK _ _ ?_
                  clear hK K
                  refine wpAnyIn_ready (rs := [0]) (by kernel_rfl) (by simp) ?_
                  refine AllReadyIn.cons rfl (fun K hK => ?_) ?_
                  · go_simp
                    refine hK _ _ ?_
                    clear hK K
                    refine wpAnyIn_ready (rs := [7]) (by kernel_rfl) (by simp) ?_
                    refine AllReadyIn.cons rfl (fun K hK => ?_) ?_
                    · refine step_append_at_in _ rfl (.tmp 41) (.tmp 47) 37 rfl w2.heap.size 9 i0 (.string ⟨#[]⟩) 1 16 Tryz.underlying37 hi hz0 hz1 hz2 rfl (by decide) v _ _ (by simp [Act.eval]) (hAP.out.1.alloc _) ⟨W.heap.size, 0, none⟩ 1 1 [.string (s.extract x.val (q + 1))] (by simp [Act.eval]) rfl (cell_one_new _ _ _) (by simp [Value.oneCell']) (by unfold maxLen; omega) (by omega) (by simp; omega) ?_
                      intro v' w3 hown hg hat
                      have hCC := hAP.out.2.1.appended (n0 := ((w2.alloc (.cells #[.slice none 0 0] 37)).alloc (.cells #[.slice (some ⟨w.heap.size + 1 + 1 + 1, 0, none⟩) s.size s.size, .slice (some ⟨M, 0, none⟩) s.size s.size] 94)).heap.size) hAP.out.2.2 hAP.out.1 HO.out (by decide) (Nat.le_refl _) (by omega) (Nat.le_refl _) hown hg (by simpa using hat)
                      obtain ⟨g', c', rfl⟩ := ownsRow_succ hown
                      have hc1 := hCC.1.cell
                      have hf1 := hCC.1.frozen
                      have HCC := Lib.hid hCC
                      clear hCC hown hg hat
                      refine hK _ _ ?_
                      clear hK K
                      refine wpAnyIn_ready (rs := [8]) (by kernel_rfl) (by simp) ?_
                      refine AllReadyIn.cons rfl (fun K hK => ?_) ?_
                      · go_simp
                        refine hK _ _ ?_
                        clear hK K
                        refine wpAnyIn_done (by kernel_rfl) ?_ _
                        have HZ := HCC
                        gi_wp2
                        exact ⟨⟨HZ.out.2.2.1.size, HZ.out.2.2.1.same⟩, ⟨⟨HZ.out.2.2.2.1.1.os, HZ.out.2.2.2.1.1.tape, HZ.out.2.2.2.1.1.output, HZ.out.2.2.2.1.1.size, HZ.out.2.2.2.1.1.block⟩, HZ.out.2.2.2.1.2⟩, HZ.out.2.2.2.2, by show Coll _ _ _ _ _ (facV s (ksOf l) (pre ++ [x])) B w2 _; rw [E.out]; exact HZ.out.2.1⟩
                      exact AllReadyIn.nil
                    exact AllReadyIn.nil
                  exact AllReadyIn.nil
                exact AllReadyIn.nil
              exact AllReadyIn.nil
            exact AllReadyIn.nil
          exact AllReadyIn.nil
        refine AllReadyIn.cons rfl (fun K hK => ?_) ?_
        · go_simp
          refine hK _ _ ?_
          clear hK K
          refine wpAnyIn_ready (rs := [0, 1, 4]) (by kernel_rfl) (by simp) ?_
          refine AllReadyIn.cons rfl (fun K hK => ?_) ?_
          · go_simp
            refine hK _ _ ?_
            clear hK K
            refine wpAnyIn_ready (rs := [1, 4]) (by kernel_rfl) (by simp) ?_
            refine AllReadyIn.cons rfl (fun K hK => ?_) ?_
            · go_simp
              refine hK _ _ ?_
              clear hK K
              refine wpAnyIn_ready (rs := [4]) (by kernel_rfl) (by simp) ?_
              refine AllReadyIn.cons rfl (fun K hK => ?_) ?_
              · go_simp
                refine hK _ _ ?_
                clear hK K
                refine wpAnyIn_ready (rs := [5]) (by kernel_rfl) (by simp) ?_
                refine AllReadyIn.cons rfl (fun K hK => ?_) ?_
                · go_simp
                  refine hK _ _ ?_
                  clear hK K
                  refine wpAnyIn_ready (rs := [6]) (by kernel_rfl) (by simp) ?_
                  refine AllReadyIn.cons rfl (fun K hK => ?_) ?_
                  · go_simp
                    refine hK _ _ ?_
                    clear hK K
                    refine wpAnyIn_ready (rs := [7]) (by kernel_rfl) (by simp) ?_
                    refine AllReadyIn.cons rfl (fun K hK => ?_) ?_
                    · refine step_append_at_in _ rfl (.tmp 41) (.tmp 47) 37 rfl w2.heap.size 9 i0 (.string ⟨#[]⟩) 1 16 Tryz.underlying37 hi hz0 hz1 hz2 rfl (by decide) v _ _ (by simp [Act.eval]) (hAP.out.1.alloc _) ⟨W.heap.size, 0, none⟩ 1 1 [.string (s.extract x.val (q + 1))] (by simp [Act.eval]) rfl (cell_one_new _ _ _) (by simp [Value.oneCell']) (by unfold maxLen; omega) (by omega) (by simp; omega) ?_
                      intro v' w3 hown hg hat
                      have hCC := hAP.out.2.1.appended (n0 := ((w2.alloc (.cells #[.slice none 0 0] 37)).alloc (.cells #[.slice (some ⟨w.heap.size + 1 + 1 + 1, 0, none⟩) s.size s.size, .slice (some ⟨M, 0, none⟩) s.size s.size] 94)).heap.size) hAP.out.2.2 hAP.out.1 HO.out (by decide) (Nat.le_refl _) (by omega) (Nat.le_refl _) hown hg (by simpa using hat)
                      obtain ⟨g', c', rfl⟩ := ownsRow_succ hown
                      have hc1 := hCC.1.cell
                      have hf1 := hCC.1.frozen
                      have HCC := Lib.hid hCC
                      clear hCC hown hg hat
                      refine hK _ _ ?_
                      clear hK K
                      refine wpAnyIn_ready (rs := [8]) (by kernel_rfl) (by simp) ?_
                      refine AllReadyIn.cons rfl (fun K hK => ?_) ?_
                      · go_simp
                        refine hK _ _ ?_
                        clear hK K
                        refine wpAnyIn_done (by kernel_rfl) ?_ _
                        have HZ := HCC
                        gi_wp2
                        exact ⟨⟨HZ.out.2.2.1.size, HZ.out.2.2.1.same⟩, ⟨⟨HZ.out.2.2.2.1.1.os, HZ.out.2.2.2.1.1.tape, HZ.out.2.2.2.1.1.output, HZ.out.2.2.2.1.1.size, HZ.out.2.2.2.1.1.block⟩, HZ.out.2.2.2.1.2⟩, HZ.out.2.2.2.2, by show Coll _ _ _ _ _ (facV s (ksOf l) (pre ++ [x])) B w2 _; rw [E.out]; exact HZ.out.2.1⟩
                      exact AllReadyIn.nil
                    exact AllReadyIn.nil
                  exact AllReadyIn.nil
                exact AllReadyIn.nil
              exact AllReadyIn.nil
            refine AllReadyIn.cons rfl (fun K hK => ?_) ?_
            · go_simp
              refine hK _ _ ?_
              clear hK K
              refine wpAnyIn_ready (rs := [1]) (by kernel_rfl) (by simp) ?_
              refine AllReadyIn.cons rfl (fun K hK => ?_) ?_
              · go_simp
                refine hK _ _ ?_
                clear hK K
                refine wpAnyIn_ready (rs := [5]) (by kernel_rfl) (by simp) ?_
                refine AllReadyIn.cons rfl (fun K hK => ?_) ?_
                · go_simp
                  refine hK _ _ ?_
                  clear hK K
                  refine wpAnyIn_ready (rs := [6]) (by kernel_rfl) (by simp) ?_
                  refine AllReadyIn.cons rfl (fun K hK => ?_) ?_
                  · go_simp
                    refine hK _ _ ?_
                    clear hK K
                    refine wpAnyIn_ready (rs := [7]) (by kernel_rfl) (by simp) ?_
                    refine AllReadyIn.cons rfl (fun K hK => ?_) ?_
                    · refine step_append_at_in _ rfl (.tmp 41) (.tmp 47) 37 rfl w2.heap.size 9 i0 (.string ⟨#[]⟩) 1 16 Tryz.underlying37 hi hz0 hz1 hz2 rfl (by decide) v _ _ (by simp [Act.eval]) (hAP.out.1.alloc _) ⟨W.heap.size, 0, none⟩ 1 1 [.string (s.extract x.val (q + 1))] (by simp [Act.eval]) rfl (cell_one_new _ _ _) (by simp [Value.oneCell']) (by unfold maxLen; omega) (by omega) (by simp; omega) ?_
                      intro v' w3 hown hg hat
                      have hCC := hAP.out.2.1.appended (n0 := ((w2.alloc (.cells #[.slice none 0 0] 37)).alloc (.cells #[.slice (some ⟨w.heap.size + 1 + 1 + 1, 0, none⟩) s.size s.size, .slice (some ⟨M, 0, none⟩) s.size s.size] 94)).heap.size) hAP.out.2.2 hAP.out.1 HO.out (by decide) (Nat.le_refl _) (by omega) (Nat.le_refl _) hown hg (by simpa using hat)
                      obtain ⟨g', c', rfl⟩ := ownsRow_succ hown
                      have hc1 := hCC.1.cell
                      have hf1 := hCC.1.frozen
                      have HCC := Lib.hid hCC
                      clear hCC hown hg hat
                      refine hK _ _ ?_
                      clear hK K
                      refine wpAnyIn_ready (rs := [8]) (by kernel_rfl) (by simp) ?_
                      refine AllReadyIn.cons rfl (fun K hK => ?_) ?_
                      · go_simp
                        refine hK _ _ ?_
                        clear hK K
                        refine wpAnyIn_done (by kernel_rfl) ?_ _
                        have HZ := HCC
                        gi_wp2
                        exact ⟨⟨HZ.out.2.2.1.size, HZ.out.2.2.1.same⟩, ⟨⟨HZ.out.2.2.2.1.1.os, HZ.out.2.2.2.1.1.tape, HZ.out.2.2.2.1.1.output, HZ.out.2.2.2.1.1.size, HZ.out.2.2.2.1.1.block⟩, HZ.out.2.2.2.1.2⟩, HZ.out.2.2.2.2, by show Coll _ _ _ _ _ (facV s (ksOf l) (pre ++ [x])) B w2 _; rw [E.out]; exact HZ.out.2.1⟩
                      exact AllReadyIn.nil
                    exact AllReadyIn.nil
                  exact AllReadyIn.nil
                exact AllReadyIn.nil
              exact AllReadyIn.nil
            exact AllReadyIn.nil
          refine AllReadyIn.cons rfl (fun K hK => ?_) ?_
          · go_simp
            refine hK _ _ ?_
            clear hK K
            refine wpAnyIn_ready (rs := [0, 4]) (by kernel_rfl) (by simp) ?_
            refine AllReadyIn.cons rfl (fun K hK => ?_) ?_
            · go_simp
              refine hK _ _ ?_
              clear hK K
              refine wpAnyIn_ready (rs := [4]) (by kernel_rfl) (by simp) ?_
              refine AllReadyIn.cons rfl (fun K hK => ?_) ?_
              · go_simp
                refine hK _ _ ?_
                clear hK K
                refine wpAnyIn_ready (rs := [5]) (by kernel_rfl) (by simp) ?_
                refine AllReadyIn.cons rfl (fun K hK => ?_) ?_
                · go_simp
                  refine hK _ _ ?_
                  clear hK K
                  refine wpAnyIn_ready (rs := [6]) (by kernel_rfl) (by simp) ?_
                  refine AllReadyIn.cons rfl (fun K hK => ?_) ?_
                  · go_simp
                    refine hK _ _ ?_
                    clear hK K
                    refine wpAnyIn_ready (rs := [7]) (by kernel_rfl) (by simp) ?_
                    refine AllReadyIn.cons rfl (fun K hK => ?_) ?_
                    · refine step_append_at_in _ rfl (.tmp 41) (.tmp 47) 37 rfl w2.heap.size 9 i0 (.string ⟨#[]⟩) 1 16 Tryz.underlying37 hi hz0 hz1 hz2 rfl (by decide) v _ _ (by simp [Act.eval]) (hAP.out.1.alloc _) ⟨W.heap.size, 0, none⟩ 1 1 [.string (s.extract x.val (q + 1))] (by simp [Act.eval]) rfl (cell_one_new _ _ _) (by simp [Value.oneCell']) (by unfold maxLen; omega) (by omega) (by simp; omega) ?_
                      intro v' w3 hown hg hat
                      have hCC := hAP.out.2.1.appended (n0 := ((w2.alloc (.cells #[.slice none 0 0] 37)).alloc (.cells #[.slice (some ⟨w.heap.size + 1 + 1 + 1, 0, none⟩) s.size s.size, .slice (some ⟨M, 0, none⟩) s.size s.size] 94)).heap.size) hAP.out.2.2 hAP.out.1 HO.out (by decide) (Nat.le_refl _) (by omega) (Nat.le_refl _) hown hg (by simpa using hat)
                      obtain ⟨g', c', rfl⟩ := ownsRow_succ hown
                      have hc1 := hCC.1.cell
                      have hf1 := hCC.1.frozen
                      have HCC := Lib.hid hCC
                      clear hCC hown hg hat
                      refine hK _ _ ?_
                      clear hK K
                      refine wpAnyIn_ready (rs := [8]) (by kernel_rfl) (by simp) ?_
                      refine AllReadyIn.cons rfl (fun K hK => ?_) ?_
                      · go_simp
                        refine hK _ _ ?_
                        clear hK K
                        refine wpAnyIn_done (by kernel_rfl) ?_ _
                        have HZ := HCC
                        gi_wp2
                        exact ⟨⟨HZ.out.2.2.1.size, HZ.out.2.2.1.same⟩, ⟨⟨HZ.out.2.2.2.1.1.os, HZ.out.2.2.2.1.1.tape, HZ.out.2.2.2.1.1.output, HZ.out.2.2.2.1.1.size, HZ.out.2.2.2.1.1.block⟩, HZ.out.2.2.2.1.2⟩, HZ.out.2.2.2.2, by show Coll _ _ _ _ _ (facV s (ksOf l) (pre ++ [x])) B w2 _; rw [E.out]; exact HZ.out.2.1⟩
                      exact AllReadyIn.nil
                    exact AllReadyIn.nil
                  exact AllReadyIn.nil
                exact AllReadyIn.nil
              exact AllReadyIn.nil
            refine AllReadyIn.cons rfl (fun K hK => ?_) ?_
            · go_simp
              refine hK _ _ ?_
              clear hK K
              refine wpAnyIn_ready (rs := [0, 5]) (by kernel_rfl) (by simp) ?_
              refine AllReadyIn.cons rfl (fun K hK => ?_) ?_
              · go_simp
                refine hK _ _ ?_
                clear hK K
                refine wpAnyIn_ready (rs := [5]) (by kernel_rfl) (by simp) ?_
                refine AllReadyIn.cons rfl (fun K hK => ?_) ?_
                · go_simp
                  refine hK _ _ ?_
                  clear hK K
                  refine wpAnyIn_ready (rs := [6]) (by kernel_rfl) (by simp) ?_
                  refine AllReadyIn.cons rfl (fun K hK => ?_) ?_
                  · go_simp
                    refine hK _ _ ?_
                    clear hK K
                    refine wpAnyIn_ready (rs := [7]) (by kernel_rfl) (by simp) ?_
                    refine AllReadyIn.cons rfl (fun K hK => ?_) ?_
                    · refine step_append_at_in _ rfl (.tmp 41) (.tmp 47) 37 rfl w2.heap.size 9 i0 (.string ⟨#[]⟩) 1 16 Tryz.underlying37 hi hz0 hz1 hz2 rfl (by decide) v _ _ (by simp [Act.eval]) (hAP.out.1.alloc _) ⟨W.heap.size, 0, none⟩ 1 1 [.string (s.extract x.val (q + 1))] (by simp [Act.eval]) rfl (cell_one_new _ _ _) (by simp [Value.oneCell']) (by unfold maxLen; omega) (by omega) (by simp; omega) ?_
                      intro v' w3 hown hg hat
                      have hCC := hAP.out.2.1.appended (n0 := ((w2.alloc (.cells #[.slice none 0 0] 37)).alloc (.cells #[.slice (some ⟨w.heap.size + 1 + 1 + 1, 0, none⟩) s.size s.size, .slice (some ⟨M, 0, none⟩) s.size s.size] 94)).heap.size) hAP.out.2.2 hAP.out.1 HO.out (by decide) (Nat.le_refl _) (by omega) (Nat.le_refl _) hown hg (by simpa using hat)
                      obtain ⟨g', c', rfl⟩ := ownsRow_succ hown
                      have hc1 := hCC.1.cell
                      have hf1 := hCC.1.frozen
                      have HCC := Lib.hid hCC
                      clear hCC hown hg hat
                      refine hK _ _ ?_
                      clear hK K
                      refine wpAnyIn_ready (rs := [8]) (by kernel_rfl) (by simp) ?_
                      refine AllReadyIn.cons rfl (fun K hK => ?_) ?_
                      · go_simp
                        refine hK _ _ ?_
                        clear hK K
                        refine wpAnyIn_done (by kernel_rfl) ?_ _
                        have HZ := HCC
                        gi_wp2
                        exact ⟨⟨HZ.out.2.2.1.size, HZ.out.2.2.1.same⟩, ⟨⟨HZ.out.2.2.2.1.1.os, HZ.out.2.2.2.1.1.tape, HZ.out.2.2.2.1.1.output, HZ.out.2.2.2.1.1.size, HZ.out.2.2.2.1.1.block⟩, HZ.out.2.2.2.1.2⟩, HZ.out.2.2.2.2, by show Coll _ _ _ _ _ (facV s (ksOf l) (pre ++ [x])) B w2 _; rw [E.out]; exact HZ.out.2.1⟩
                      exact AllReadyIn.nil
                    exact AllReadyIn.nil
                  exact AllReadyIn.nil
                exact AllReadyIn.nil
              refine AllReadyIn.cons rfl (fun K hK => ?_) ?_
              · go_simp
                refine hK _ _ ?_
                clear hK K
                refine wpAnyIn_ready (rs := [0, 6]) (by kernel_rfl) (by simp) ?_
                refine AllReadyIn.cons rfl (fun K hK => ?_) ?_
                · go_simp
                  refine hK _ _ ?_
                  clear hK K
                  refine wpAnyIn_ready (rs := [6]) (by kernel_rfl) (by simp) ?_
                  refine AllReadyIn.cons rfl (fun K hK => ?_) ?_
                  · go_simp
                    refine hK _ _ ?_
                    clear hK K
                    refine wpAnyIn_ready (rs := [7]) (by kernel_rfl) (by simp) ?_
                    refine AllReadyIn.cons rfl (fun K hK => ?_) ?_
                    · refine step_append_at_in _ rfl (.tmp 41) (.tmp 47) 37 rfl w2.heap.size 9 i0 (.string ⟨#[]⟩) 1 16 Tryz.underlying37 hi hz0 hz1 hz2 rfl (by decide) v _ _ (by simp [Act.eval]) (hAP.out.1.alloc _) ⟨W.heap.size, 0, none⟩ 1 1 [.string (s.extract x.val (q + 1))] (by simp [Act.eval]) rfl (cell_one_new _ _ _) (by simp [Value.oneCell']) (by unfold maxLen; omega) (by omega) (by simp; omega) ?_
                      intro v' w3 hown hg hat
                      have hCC := hAP.out.2.1.appended (n0 := ((w2.alloc (.cells #[.slice none 0 0] 37)).alloc (.cells #[.slice (some ⟨w.heap.size + 1 + 1 + 1, 0, none⟩) s.size s.size, .slice (some ⟨M, 0, none⟩) s.size s.size] 94)).heap.size) hAP.out.2.2 hAP.out.1 HO.out (by decide) (Nat.le_refl _) (by omega) (Nat.le_refl _) hown hg (by simpa using hat)
                      obtain ⟨g', c', rfl⟩ := ownsRow_succ hown
                      have hc1 := hCC.1.cell
                      have hf1 := hCC.1.frozen
                      have HCC := Lib.hid hCC
                      clear hCC hown hg hat
                      refine hK _ _ ?_
                      clear hK K
                      refine wpAnyIn_ready (rs := [8]) (by kernel_rfl) (by simp) ?_
                      refine AllReadyIn.cons rfl (fun K hK => ?_) ?_
                      · go_simp
                        refine hK _ _ ?_
                        clear hK K
                        refine wpAnyIn_done (by kernel_rfl) ?_ _
                        have HZ := HCC
                        gi_wp2
                        exact ⟨⟨HZ.out.2.2.1.size, HZ.out.2.2.1.same⟩, ⟨⟨HZ.out.2.2.2.1.1.os, HZ.out.2.2.2.1.1.tape, HZ.out.2.2.2.1.1.output, HZ.out.2.2.2.1.1.size, HZ.out.2.2.2.1.1.block⟩, HZ.out.2.2.2.1.2⟩, HZ.out.2.2.2.2, by show Coll _ _ _ _ _ (facV s (ksOf l) (pre ++ [x])) B w2 _; rw [E.out]; exact HZ.out.2.1⟩
                      exact AllReadyIn.nil
                    exact AllReadyIn.nil
                  exact AllReadyIn.nil
                refine AllReadyIn.cons rfl (fun K hK => ?_) ?_
                · go_simp
                  refine hK _ _ ?_
                  clear hK K
                  refine wpAnyIn_ready (rs := [0]) (by kernel_rfl) (by simp) ?_
                  refine AllReadyIn.cons rfl (fun K hK => ?_) ?_
                  · go_simp
                    refine hK _ _ ?_
                    clear hK K
                    refine wpAnyIn_ready (rs := [7]) (by kernel_rfl) (by simp) ?_
                    refine AllReadyIn.cons rfl (fun K hK => ?_) ?_
                    · refine step_append_at_in _ rfl (.tmp 41) (.tmp 47) 37 rfl w2.heap.size 9 i0 (.string ⟨#[]⟩) 1 16 Tryz.underlying37 hi hz0 hz1 hz2 rfl (by decide) v _ _ (by simp [Act.eval]) (hAP.out.1.alloc _) ⟨W.heap.size, 0, none⟩ 1 1 [.string (s.extract x.val (q + 1))] (by simp [Act.eval]) rfl (cell_one_new _ _ _) (by simp [Value.oneCell']) (by unfold maxLen; omega) (by omega) (by simp; omega) ?_
                      intro v' w3 hown hg hat
                      have hCC := hAP.out.2.1.appended (n0 := ((w2.alloc (.cells #[.slice none 0 0] 37)).alloc (.cells #[.slice (some ⟨w.heap.size + 1 + 1 + 1, 0, none⟩) s.size s.size, .slice (some ⟨M, 0, none⟩) s.size s.size] 94)).heap.size) hAP.out.2.2 hAP.out.1 HO.out (by decide) (Nat.le_refl _) (by omega) (Nat.le_refl _) hown hg (by simpa using hat)
                      obtain ⟨g', c', rfl⟩ := ownsRow_succ hown
                      have hc1 := hCC.1.cell
                      have hf1 := hCC.1.frozen
                      have HCC := Lib.hid hCC
                      clear hCC hown hg hat
                      refine hK _ _ ?_
                      clear hK K
                      refine wpAnyIn_ready (rs := [8]) (by kernel_rfl) (by simp) ?_
                      refine AllReadyIn.cons rfl (fun K hK => ?_) ?_
                      · go_simp
                        refine hK _ _ ?_
                        clear hK K
                        refine wpAnyIn_done (by kernel_rfl) ?_ _
                        have HZ := HCC
                        gi_wp2
                        exact ⟨⟨HZ.out.2.2.1.size, HZ.out.2.2.1.same⟩, ⟨⟨HZ.out.2.2.2.1.1.os, HZ.out.2.2.2.1.1.tape, HZ.out.2.2.2.1.1.output, HZ.out.2.2.2.1.1.size, HZ.out.2.2.2.1.1.block⟩, HZ.out.2.2.2.1.2⟩, HZ.out.2.2.2.2, by show Coll _ _ _ _ _ (facV s (ksOf l) (pre ++ [x])) B w2 _; rw [E.out]; exact HZ.out.2.1⟩
                      exact AllReadyIn.nil
                    exact AllReadyIn.nil
                  exact AllReadyIn.nil
                exact AllReadyIn.nil
              exact AllReadyIn.nil
            exact AllReadyIn.nil
          refine AllReadyIn.cons rfl (fun K hK => ?_) ?_
          · go_simp
            refine hK _ _ ?_
            clear hK K
            refine wpAnyIn_ready (rs := [0, 1]) (by kernel_rfl) (by simp) ?_
            refine AllReadyIn.cons rfl (fun K hK => ?_) ?_
            · go_simp
              refine hK _ _ ?_
              clear hK K
              refine wpAnyIn_ready (rs := [1]) (by kernel_rfl) (by simp) ?_
              refine AllReadyIn.cons rfl (fun K hK => ?_) ?_
              · go_simp
                refine hK _ _ ?_
                clear hK K
                refine wpAnyIn_ready (rs := [5]) (by kernel_rfl) (by simp) ?_
                refine AllReadyIn.cons rfl (fun K hK => ?_) ?_
                · go_simp
                  refine hK _ _ ?_
                  clear hK K
                  refine wpAnyIn_ready (rs := [6]) (by kernel_rfl) (by simp) ?_
                  refine AllReadyIn.cons rfl (fun K hK => ?_) ?_
                  · go_simp
                    refine hK _ _ ?_
                    clear hK K
                    refine wpAnyIn_ready (rs := [7]) (by kernel_rfl) (by simp) ?_
                    refine AllReadyIn.cons rfl (fun K hK => ?_) ?_
                    · refine step_append_at_in _ rfl (.tmp 41) (.tmp 47) 37 rfl w2.heap.size 9 i0 (.string ⟨#[]⟩) 1 16 Tryz.underlying37 hi hz0 hz1 hz2 rfl (by decide) v _ _ (by simp [Act.eval]) (hAP.out.1.alloc _) ⟨W.heap.size, 0, none⟩ 1 1 [.string (s.extract x.val (q + 1))] (by simp [Act.eval]) rfl (cell_one_new _ _ _) (by simp [Value.oneCell']) (by unfold maxLen; omega) (by omega) (by simp; omega) ?_
                      intro v' w3 hown hg hat
                      have hCC := hAP.out.2.1.appended (n0 := ((w2.alloc (.cells #[.slice none 0 0] 37)).alloc (.cells #[.slice (some ⟨w.heap.size + 1 + 1 + 1, 0, none⟩) s.size s.size, .slice (some ⟨M, 0, none⟩) s.size s.size] 94)).heap.size) hAP.out.2.2 hAP.out.1 HO.out (by decide) (Nat.le_refl _) (by omega) (Nat.le_refl _) hown hg (by simpa using hat)
                      obtain ⟨g', c', rfl⟩ := ownsRow_succ hown
                      have hc1 := hCC.1.cell
                      have hf1 := hCC.1.frozen
                      have HCC := Lib.hid hCC
                      clear hCC hown hg hat
                      refine hK _ _ ?_
                      clear hK K
                      refine wpAnyIn_ready (rs := [8]) (by kernel_rfl) (by simp) ?_
                      refine AllReadyIn.cons rfl (fun K hK => ?_) ?_
                      · go_simp
                        refine hK _ _ ?_
                        clear hK K
                        refine wpAnyIn_done (by kernel_rfl) ?_ _
                        have HZ := HCC
                        gi_wp2
                        exact ⟨⟨HZ.out.2.2.1.size, HZ.out.2.2.1.same⟩, ⟨⟨HZ.out.2.2.2.1.1.os, HZ.out.2.2.2.1.1.tape, HZ.out.2.2.2.1.1.output, HZ.out.2.2.2.1.1.size, HZ.out.2.2.2.1.1.block⟩, HZ.out.2.2.2.1.2⟩, HZ.out.2.2.2.2, by show Coll _ _ _ _ _ (facV s (ksOf l) (pre ++ [x])) B w2 _; rw [E.out]; exact HZ.out.2.1⟩
                      exact AllReadyIn.nil
                    exact AllReadyIn.nil
                  exact AllReadyIn.nil
                exact AllReadyIn.nil
              exact AllReadyIn.nil
            refine AllReadyIn.cons rfl (fun K hK => ?_) ?_
            · go_simp
              refine hK _ _ ?_
              clear hK K
              refine wpAnyIn_ready (rs := [0, 5]) (by kernel_rfl) (by simp) ?_
              refine AllReadyIn.cons rfl (fun K hK => ?_) ?_
              · go_simp
                refine hK _ _ ?_
                clear hK K
                refine wpAnyIn_ready (rs := [5]) (by kernel_rfl) (by simp) ?_
                refine AllReadyIn.cons rfl (fun K hK => ?_) ?_
                · go_simp
                  refine hK _ _ ?_
                  clear hK K
                  refine wpAnyIn_ready (rs := [6]) (by kernel_rfl) (by simp) ?_
                  refine AllReadyIn.cons rfl (fun K hK => ?_) ?_
                  · go_simp
                    refine hK _ _ ?_
                    clear hK K
                    refine wpAnyIn_ready (rs := [7]) (by kernel_rfl) (by simp) ?_
                    refine AllReadyIn.cons rfl (fun K hK => ?_) ?_
                    · refine step_append_at_in _ rfl (.tmp 41) (.tmp 47) 37 rfl w2.heap.size 9 i0 (.string ⟨#[]⟩) 1 16 Tryz.underlying37 hi hz0 hz1 hz2 rfl (by decide) v _ _ (by simp [Act.eval]) (hAP.out.1.alloc _) ⟨W.heap.size, 0, none⟩ 1 1 [.string (s.extract x.val (q + 1))] (by simp [Act.eval]) rfl (cell_one_new _ _ _) (by simp [Value.oneCell']) (by unfold maxLen; omega) (by omega) (by simp; omega) ?_
                      intro v' w3 hown hg hat
                      have hCC := hAP.out.2.1.appended (n0 := ((w2.alloc (.cells #[.slice none 0 0] 37)).alloc (.cells #[.slice (some ⟨w.heap.size + 1 + 1 + 1, 0, none⟩) s.size s.size, .slice (some ⟨M, 0, none⟩) s.size s.size] 94)).heap.size) hAP.out.2.2 hAP.out.1 HO.out (by decide) (Nat.le_refl _) (by omega) (Nat.le_refl _) hown hg (by simpa using hat)
                      obtain ⟨g', c', rfl⟩ := ownsRow_succ hown
                      have hc1 := hCC.1.cell
                      have hf1 := hCC.1.frozen
                      have HCC := Lib.hid hCC
                      clear hCC hown hg hat
                      refine hK _ _ ?_
                      clear hK K
                      refine wpAnyIn_ready (rs := [8]) (by kernel_rfl) (by simp) ?_
                      refine AllReadyIn.cons rfl (fun K hK => ?_) ?_
                      · go_simp
                        refine hK _ _ ?_
                        clear hK K
                        refine wpAnyIn_done (by kernel_rfl) ?_ _
                        have HZ := HCC
                        gi_wp2
                        exact ⟨⟨HZ.out.2.2.1.size, HZ.out.2.2.1.same⟩, ⟨⟨HZ.out.2.2.2.1.1.os, HZ.out.2.2.2.1.1.tape, HZ.out.2.2.2.1.1.output, HZ.out.2.2.2.1.1.size, HZ.out.2.2.2.1.1.block⟩, HZ.out.2.2.2.1.2⟩, HZ.out.2.2.2.2, by show Coll _ _ _ _ _ (facV s (ksOf l) (pre ++ [x])) B w2 _; rw [E.out]; exact HZ.out.2.1⟩
                      exact AllReadyIn.nil
                    exact AllReadyIn.nil
                  exact AllReadyIn.nil
                exact AllReadyIn.nil
              refine AllReadyIn.cons rfl (fun K hK => ?_) ?_
              · go_simp
                refine hK _ _ ?_
                clear hK K
                refine wpAnyIn_ready (rs := [0, 6]) (by kernel_rfl) (by simp) ?_
                refine AllReadyIn.cons rfl (fun K hK => ?_) ?_
                · go_simp
                  refine hK _ _ ?_
                  clear hK K
                  refine wpAnyIn_ready (rs := [6]) (by kernel_rfl) (by simp) ?_
                  refine AllReadyIn.cons rfl (fun K hK => ?_) ?_
                  · go_simp
                    refine hK _ _ ?_
                    clear hK K
                    refine wpAnyIn_ready (rs := [7]) (by kernel_rfl) (by simp) ?_
                    refine AllReadyIn.cons rfl (fun K hK => ?_) ?_
                    · refine step_append_at_in _ rfl (.tmp 41) (.tmp 47) 37 rfl w2.heap.size 9 i0 (.string ⟨#[]⟩) 1 16 Tryz.underlying37 hi hz0 hz1 hz2 rfl (by decide) v _ _ (by simp [Act.eval]) (hAP.out.1.alloc _) ⟨W.heap.size, 0, none⟩ 1 1 [.string (s.extract x.val (q + 1))] (by simp [Act.eval]) rfl (cell_one_new _ _ _) (by simp [Value.oneCell']) (by unfold maxLen; omega) (by omega) (by simp; omega) ?_
                      intro v' w3 hown hg hat
                      have hCC := hAP.out.2.1.appended (n0 := ((w2.alloc (.cells #[.slice none 0 0] 37)).alloc (.cells #[.slice (some ⟨w.heap.size + 1 + 1 + 1, 0, none⟩) s.size s.size, .slice (some ⟨M, 0, none⟩) s.size s.size] 94)).heap.size) hAP.out.2.2 hAP.out.1 HO.out (by decide) (Nat.le_refl _) (by omega) (Nat.le_refl _) hown hg (by simpa using hat)
                      obtain ⟨g', c', rfl⟩ := ownsRow_succ hown
                      have hc1 := hCC.1.cell
                      have hf1 := hCC.1.frozen
                      have HCC := Lib.hid hCC
                      clear hCC hown hg hat
                      refine hK _ _ ?_
                      clear hK K
                      refine wpAnyIn_ready (rs := [8]) (by kernel_rfl) (by simp) ?_
                      refine AllReadyIn.cons rfl (fun K hK => ?_) ?_
                      · go_simp
                        refine hK _ _ ?_
                        clear hK K
                        refine wpAnyIn_done (by kernel_rfl) ?_ _
                        have HZ := HCC
                        gi_wp2
                        exact ⟨⟨HZ.out.2.2.1.size, HZ.out.2.2.1.same⟩, ⟨⟨HZ.out.2.2.2.1.1.os, HZ.out.2.2.2.1.1.tape, HZ.out.2.2.2.1.1.output, HZ.out.2.2.2.1.1.size, HZ.out.2.2.2.1.1.block⟩, HZ.out.2.2.2.1.2⟩, HZ.out.2.2.2.2, by show Coll _ _ _ _ _ (facV s (ksOf l) (pre ++ [x])) B w2 _; rw [E.out]; exact HZ.out.2.1⟩
                      exact AllReadyIn.nil
                    exact AllReadyIn.nil
                  exact AllReadyIn.nil
                refine AllReadyIn.cons rfl (fun K hK => ?_) ?_
                · go_simp
                  refine hK _ _ ?_
                  clear hK K
                  refine wpAnyIn_ready (rs := [0]) (by kernel_rfl) (by simp) ?_
                  refine AllReadyIn.cons rfl (fun K hK => ?_) ?_
                  · go_simp
                    refine hK _ _ ?_
                    clear hK K
                    refine wpAnyIn_ready (rs := [7]) (by kernel_rfl) (by simp) ?_
                    refine AllReadyIn.cons rfl (fun K hK => ?_) ?_
                    · refine step_append_at_in _ rfl (.tmp 41) (.tmp 47) 37 rfl w2.heap.size 9 i0 (.string ⟨#[]⟩) 1 16 Tryz.underlying37 hi hz0 hz1 hz2 rfl (by decide) v _ _ (by simp [Act.eval]) (hAP.out.1.alloc _) ⟨W.heap.size, 0, none⟩ 1 1 [.string (s.extract x.val (q + 1))] (by simp [Act.eval]) rfl (cell_one_new _ _ _) (by simp [Value.oneCell']) (by unfold maxLen; omega) (by omega) (by simp; omega) ?_
                      intro v' w3 hown hg hat
                      have hCC := hAP.out.2.1.appended (n0 := ((w2.alloc (.cells #[.slice none 0 0] 37)).alloc (.cells #[.slice (some ⟨w.heap.size + 1 + 1 + 1, 0, none⟩) s.size s.size, .slice (some ⟨M, 0, none⟩) s.size s.size] 94)).heap.size) hAP.out.2.2 hAP.out.1 HO.out (by decide) (Nat.le_refl _) (by omega) (Nat.le_refl _) hown hg (by simpa using hat)
                      obtain ⟨g', c', rfl⟩ := ownsRow_succ hown
                      have hc1 := hCC.1.cell
                      have hf1 := hCC.1.frozen
                      have HCC := Lib.hid hCC
                      clear hCC hown hg hat
                      refine hK _ _ ?_
                      clear hK K
                      refine wpAnyIn_ready (rs := [8]) (by kernel_rfl) (by simp) ?_
                      refine AllReadyIn.cons rfl (fun K hK => ?_) ?_
                      · go_simp
                        refine hK _ _ ?_
                        clear hK K
                        refine wpAnyIn_done (by kernel_rfl) ?_ _
                        have HZ := HCC
                        gi_wp2
                        exact ⟨⟨HZ.out.2.2.1.size, HZ.out.2.2.1.same⟩, ⟨⟨HZ.out.2.2.2.1.1.os, HZ.out.2.2.2.1.1.tape, HZ.out.2.2.2.1.1.output, HZ.out.2.2.2.1.1.size, HZ.out.2.2.2.1.1.block⟩, HZ.out.2.2.2.1.2⟩, HZ.out.2.2.2.2, by show Coll _ _ _ _ _ (facV s (ksOf l) (pre ++ [x])) B w2 _; rw [E.out]; exact HZ.out.2.1⟩
                      exact AllReadyIn.nil
                    exact AllReadyIn.nil
                  exact AllReadyIn.nil
                exact AllReadyIn.nil
              exact AllReadyIn.nil
            exact AllReadyIn.nil
          exact AllReadyIn.nil
        exact AllReadyIn.nil
      refine AllReadyIn.cons rfl (fun K hK => ?_) ?_
      · go_simp
        refine hK _ _ ?_
        clear hK K
        refine wpAnyIn_ready (rs := [0, 1, 2, 4]) (by kernel_rfl) (by simp) ?_
        refine AllReadyIn.cons rfl (fun K hK => ?_) ?_
        · go_simp
          refine hK _ _ ?_
          clear hK K
          refine wpAnyIn_ready (rs := [1, 2, 4]) (by kernel_rfl) (by simp) ?_
          refine AllReadyIn.cons rfl (fun K hK => ?_) ?_
          · go_simp
            refine hK _ _ ?_
            clear hK K
            refine wpAnyIn_ready (rs := [2, 4]) (by kernel_rfl) (by simp) ?_
            refine AllReadyIn.cons rfl (fun K hK => ?_) ?_
            · go_simp
              refine hK _ _ ?_
              clear hK K
              refine wpAnyIn_ready (rs := [4]) (by kernel_rfl) (by simp) ?_
              refine AllReadyIn.cons rfl (fun K hK => ?_) ?_
              · go_simp
                refine hK _ _ ?_
                clear hK K
                refine wpAnyIn_ready (rs := [5]) (by kernel_rfl) (by simp) ?_
                refine AllReadyIn.cons rfl (fun K hK => ?_) ?_
                · go_simp
                  refine hK _ _ ?_
                  clear hK K
                  refine wpAnyIn_ready (rs := [6]) (by kernel_rfl) (by simp) ?_
                  refine AllReadyIn.cons rfl (fun K hK => ?_) ?_
                  · go_simp
                    refine hK _ _ ?_
                    clear hK K
                    refine wpAnyIn_ready (rs := [7]) (by kernel_rfl) (by simp) ?_
                    refine AllReadyIn.cons rfl (fun K hK => ?_) ?_
                    · refine step_append_at_in _ rfl (.tmp 41) (.tmp 47) 37 rfl w2.heap.size 9 i0 (.string ⟨#[]⟩) 1 16 Tryz.underlying37 hi hz0 hz1 hz2 rfl (by decide) v _ _ (by simp [Act.eval]) (hAP.out.1.alloc _) ⟨W.heap.size, 0, none⟩ 1 1 [.string (s.extract x.val (q + 1))] (by simp [Act.eval]) rfl (cell_one_new _ _ _) (by simp [Value.oneCell']) (by unfold maxLen; omega) (by omega) (by simp; omega) ?_
                      intro v' w3 hown hg hat
                      have hCC := hAP.out.2.1.appended (n0 := ((w2.alloc (.cells #[.slice none 0 0] 37)).alloc (.cells #[.slice (some ⟨w.heap.size + 1 + 1 + 1, 0, none⟩) s.size s.size, .slice (some ⟨M, 0, none⟩) s.size s.size] 94)).heap.size) hAP.out.2.2 hAP.out.1 HO.out (by decide) (Nat.le_refl _) (by omega) (Nat.le_refl _) hown hg (by simpa using hat)
                      obtain ⟨g', c', rfl⟩ := ownsRow_succ hown
                      have hc1 := hCC.1.cell
                      have hf1 := hCC.1.frozen
                      have HCC := Lib.hid hCC
                      clear hCC hown hg hat
                      refine hK _ _ ?_
                      clear hK K
                      refine wpAnyIn_ready (rs := [8]) (by kernel_rfl) (by simp) ?_
                      refine AllReadyIn.cons rfl (fun K hK => ?_) ?_
                      · go_simp
                        refine hK _ _ ?_
                        clear hK K
                        refine wpAnyIn_done (by kernel_rfl) ?_ _
                        have HZ := HCC
                        gi_wp2
                        exact ⟨⟨HZ.out.2.2.1.size, HZ.out.2.2.1.same⟩, ⟨⟨HZ.out.2.2.2.1.1.os, HZ.out.2.2.2.1.1.tape, HZ.out.2.2.2.1.1.output, HZ.out.2.2.2.1.1.size, HZ.out.2.2.2.1.1.block⟩, HZ.out.2.2.2.1.2⟩, HZ.out.2.2.2.2, by show Coll _ _ _ _ _ (facV s (ksOf l) (pre ++ [x])) B w2 _; rw [E.out]; exact HZ.out.2.1⟩
                      exact AllReadyIn.nil
                    exact AllReadyIn.nil
                  exact AllReadyIn.nil
                exact AllReadyIn.nil
              exact AllReadyIn.nil
            refine AllReadyIn.cons rfl (fun K hK => ?_) ?_
            · go_simp
              refine hK _ _ ?_
              clear hK K
              refine wpAnyIn_ready (rs := [2]) (by kernel_rfl) (by simp) ?_
              refine AllReadyIn.cons rfl (fun K hK => ?_) ?_
              · go_simp
                refine hK _ _ ?_
                clear hK K
                refine wpAnyIn_ready (rs := [5]) (by kernel_rfl) (by simp) ?_
                refine AllReadyIn.cons rfl (fun K hK => ?_) ?_
                · go_simp
                  refine hK _ _ ?_
                  clear hK K
                  refine wpAnyIn_ready (rs := [6]) (by kernel_rfl) (by simp) ?_
                  refine AllReadyIn.cons rfl (fun K hK => ?_) ?_
                  · go_simp
                    refine hK _ _ ?_
                    clear hK K
                    refine wpAnyIn_ready (rs := [7]) (by kernel_rfl) (by simp) ?_
                    refine AllReadyIn.cons rfl (fun K hK => ?_) ?_
                    · refine step_append_at_in _ rfl (.tmp 41) (.tmp 47) 37 rfl w2.heap.size 9 i0 (.string ⟨#[]⟩) 1 16 Tryz.underlying37 hi hz0 hz1 hz2 rfl (by decide) v _ _ (by simp [Act.eval]) (hAP.out.1.alloc _) ⟨W.heap.size, 0, none⟩ 1 1 [.string (s.extract x.val (q + 1))] (by simp [Act.eval]) rfl (cell_one_new _ _ _) (by simp [Value.oneCell']) (by unfold maxLen; omega) (by omega) (by simp; omega) ?_
                      intro v' w3 hown hg hat
                      have hCC := hAP.out.2.1.appended (n0 := ((w2.alloc (.cells #[.slice none 0 0] 37)).alloc (.cells #[.slice (some ⟨w.heap.size + 1 + 1 + 1, 0, none⟩) s.size s.size, .slice (some ⟨M, 0, none⟩) s.size s.size] 94)).heap.size) hAP.out.2.2 hAP.out.1 HO.out (by decide) (Nat.le_refl _) (by omega) (Nat.le_refl _) hown hg (by simpa using hat)
                      obtain ⟨g', c', rfl⟩ := ownsRow_succ hown
                      have hc1 := hCC.1.cell
                      have hf1 := hCC.1.frozen
                      have HCC := Lib.hid hCC
                      clear hCC hown hg hat
                      refine hK _ _ ?_
                      clear hK K
                      refine wpAnyIn_ready (rs := [8]) (by kernel_rfl) (by simp) ?_
                      refine AllReadyIn.cons rfl (fun K hK => ?_) ?_
                      · go_simp
                        refine hK _ _ ?_
                        clear hK K
                        refine wpAnyIn_done (by kernel_rfl) ?_ _
                        have HZ := HCC
                        gi_wp2
                        exact ⟨⟨HZ.out.2.2.1.size, HZ.out.2.2.1.same⟩, ⟨⟨HZ.out.2.2.2.1.1.os, HZ.out.2.2.2.1.1.tape, HZ.out.2.2.2.1.1.output, HZ.out.2.2.2.1.1.size, HZ.out.2.2.2.1.1.block⟩, HZ.out.2.2.2.1.2⟩, HZ.out.2.2.2.2, by show Coll _ _ _ _ _ (facV s (ksOf l) (pre ++ [x])) B w2 _; rw [E.out]; exact HZ.out.2.1⟩
                      exact AllReadyIn.nil
                    exact AllReadyIn.nil
                  exact AllReadyIn.nil
                exact AllReadyIn.nil
              exact AllReadyIn.nil
            exact AllReadyIn.nil
          refine AllReadyIn.cons rfl (fun K hK => ?_) ?_
          · go_simp
            refine hK _ _ ?_
            clear hK K
            refine wpAnyIn_ready (rs := [1, 4]) (by kernel_rfl) (by simp) ?_
            refine AllReadyIn.cons rfl (fun K hK => ?_) ?_
            · go_simp
              refine hK _ _ ?_
              clear hK K
              refine wpAnyIn_ready (rs := [4]) (by kernel_rfl) (by simp) ?_
              refine AllReadyIn.cons rfl (fun K hK => ?_) ?_
              · go_simp
                refine hK _ _ ?_
                clear hK K
                refine wpAnyIn_ready (rs := [5]) (by kernel_rfl) (by simp) ?_
                refine AllReadyIn.cons rfl (fun K hK => ?_) ?_
                · go_simp
                  refine hK _ _ ?_
                  clear hK K
                  refine wpAnyIn_ready (rs := [6]) (by kernel_rfl) (by simp) ?_
                  refine AllReadyIn.cons rfl (fun K hK => ?_) ?_
                  · go_simp
                    refine hK _ _ ?_
                    clear hK K
                    refine wpAnyIn_ready (rs := [7]) (by kernel_rfl) (by simp) ?_
                    refine AllReadyIn.cons rfl (fun K hK => ?_) ?_
                    · refine step_append_at_in _ rfl (.tmp 41) (.tmp 47) 37 rfl w2.heap.size 9 i0 (.string ⟨#[]⟩) 1 16 Tryz.underlying37 hi hz0 hz1 hz2 rfl (by decide) v _ _ (by simp [Act.eval]) (hAP.out.1.alloc _) ⟨W.heap.size, 0, none⟩ 1 1 [.string (s.extract x.val (q + 1))] (by simp [Act.eval]) rfl (cell_one_new _ _ _) (by simp [Value.oneCell']) (by unfold maxLen; omega) (by omega) (by simp; omega) ?_
                      intro v' w3 hown hg hat
                      have hCC := hAP.out.2.1.appended (n0 := ((w2.alloc (.cells #[.slice none 0 0] 37)).alloc (.cells #[.slice (some ⟨w.heap.size + 1 + 1 + 1, 0, none⟩) s.size s.size, .slice (some ⟨M, 0, none⟩) s.size s.size] 94)).heap.size) hAP.out.2.2 hAP.out.1 HO.out (by decide) (Nat.le_refl _) (by omega) (Nat.le_refl _) hown hg (by simpa using hat)
                      obtain ⟨g', c', rfl⟩ := ownsRow_succ hown
                      have hc1 := hCC.1.cell
                      have hf1 := hCC.1.frozen
                      have HCC := Lib.hid hCC
                      clear hCC hown hg hat
                      refine hK _ _ ?_
                      clear hK K
                      refine wpAnyIn_ready (rs := [8]) (by kernel_rfl) (by simp) ?_
                      refine AllReadyIn.cons rfl (fun K hK => ?_) ?_
                      · go_simp
                        refine hK _ _ ?_
                        clear hK K
                        refine wpAnyIn_done (by kernel_rfl) ?_ _
                        have HZ := HCC
                        gi_wp2
                        exact ⟨⟨HZ.out.2.2.1.size, HZ.out.2.2.1.same⟩, ⟨⟨HZ.out.2.2.2.1.1.os, HZ.out.2.2.2.1.1.tape, HZ.out.2.2.2.1.1.output, HZ.out.2.2.2.1.1.size, HZ.out.2.2.2.1.1.block⟩, HZ.out.2.2.2.1.2⟩, HZ.out.2.2.2.2, by show Coll _ _ _ _ _ (facV s (ksOf l) (pre ++ [x])) B w2 _; rw [E.out]; exact HZ.out.2.1⟩
                      exact AllReadyIn.nil
                    exact AllReadyIn.nil
                  exact AllReadyIn.nil
                exact AllReadyIn.nil
              exact AllReadyIn.nil
            refine AllReadyIn.cons rfl (fun K hK => ?_) ?_
            · go_simp
              refine hK _ _ ?_
              clear hK K
              refine wpAnyIn_ready (rs := [1]) (by kernel_rfl) (by simp) ?_
              refine AllReadyIn.cons rfl (fun K hK => ?_) ?_
              · go_simp
                refine hK _ _ ?_
                clear hK K
                refine wpAnyIn_ready (rs := [5]) (by kernel_rfl) (by simp) ?_
                refine AllReadyIn.cons rfl (fun K hK => ?_) ?_
                · go_simp
                  refine hK _ _ ?_
                  clear hK K
                  refine wpAnyIn_ready (rs := [6]) (by kernel_rfl) (by simp) ?_
                  refine AllReadyIn.cons rfl (fun K hK => ?_) ?_
                  · go_simp
                    refine hK _ _ ?_
                    clear hK K
                    refine wpAnyIn_ready (rs := [7]) (by kernel_rfl) (by simp) ?_
                    refine AllReadyIn.cons rfl (fun K hK => ?_) ?_
                    · refine step_append_at_in _ rfl (.tmp 41) (.tmp 47) 37 rfl w2.heap.size 9 i0 (.string ⟨#[]⟩) 1 16 Tryz.underlying37 hi hz0 hz1 hz2 rfl (by decide) v _ _ (by simp [Act.eval]) (hAP.out.1.alloc _) ⟨W.heap.size, 0, none⟩ 1 1 [.string (s.extract x.val (q + 1))] (by simp [Act.eval]) rfl (cell_one_new _ _ _) (by simp [Value.oneCell']) (by unfold maxLen; omega) (by omega) (by simp; omega) ?_
                      intro v' w3 hown hg hat
                      have hCC := hAP.out.2.1.appended (n0 := ((w2.alloc (.cells #[.slice none 0 0] 37)).alloc (.cells #[.slice (some ⟨w.heap.size + 1 + 1 + 1, 0, none⟩) s.size s.size, .slice (some ⟨M, 0, none⟩) s.size s.size] 94)).heap.size) hAP.out.2.2 hAP.out.1 HO.out (by decide) (Nat.le_refl _) (by omega) (Nat.le_refl _) hown hg (by simpa using hat)
                      obtain ⟨g', c', rfl⟩ := ownsRow_succ hown
                      have hc1 := hCC.1.cell
                      have hf1 := hCC.1.frozen
                      have HCC := Lib.hid hCC
                      clear hCC hown hg hat
                      refine hK _ _ ?_
                      clear hK K
                      refine wpAnyIn_ready (rs := [8]) (by kernel_rfl) (by simp) ?_
                      refine AllReadyIn.cons rfl (fun K hK => ?_) ?_
                      · go_simp
                        refine hK _ _ ?_
                        clear hK K
                        refine wpAnyIn_done (by kernel_rfl) ?_ _
                        have HZ := HCC
                        gi_wp2
                        exact ⟨⟨HZ.out.2.2.1.size, HZ.out.2.2.1.same⟩, ⟨⟨HZ.out.2.2.2.1.1.os, HZ.out.2.2.2.1.1.tape, HZ.out.2.2.2.1.1.output, HZ.out.2.2.2.1.1.size, HZ.out.2.2.2.1.1.block⟩, HZ.out.2.2.2.1.2⟩, HZ.out.2.2.2.2, by show Coll _ _ _ _ _ (facV s (ksOf l) (pre ++ [x])) B w2 _; rw [E.out]; exact HZ.out.2.1⟩
                      exact AllReadyIn.nil
                    exact AllReadyIn.nil
                  exact AllReadyIn.nil
                exact AllReadyIn.nil
              exact AllReadyIn.nil
            exact AllReadyIn.nil
          refine AllReadyIn.cons rfl (fun K hK => ?_) ?_
          · go_simp
            refine hK _ _ ?_
            clear hK K
            refine wpAnyIn_ready (rs := [1, 2]) (by kernel_rfl) (by simp) ?_
            refine AllReadyIn.cons rfl (fun K hK => ?_) ?_
            · go_simp
              refine hK _ _ ?_
              clear hK K
              refine wpAnyIn_ready (rs := [2]) (by kernel_rfl) (by simp) ?_
              refine AllReadyIn.cons rfl (fun K hK => ?_) ?_
              · go_simp
                refine hK _ _ ?_
                clear hK K
                refine wpAnyIn_ready (rs := [5]) (by kernel_rfl) (by simp) ?_
                refine AllReadyIn.cons rfl (fun K hK => ?_) ?_
                · go_simp
                  refine hK _ _ ?_
                  clear hK K
                  refine wpAnyIn_ready (rs := [6]) (by kernel_rfl) (by simp) ?_
                  refine AllReadyIn.cons rfl (fun K hK => ?_) ?_
                  · go_simp
                    refine hK _ _ ?_
                    clear hK K
                    refine wpAnyIn_ready (rs := [7]) (by kernel_rfl) (by simp) ?_
                    refine AllReadyIn.cons rfl (fun K hK => ?_) ?_
                    · refine step_append_at_in _ rfl (.tmp 41) (.tmp 47) 37 rfl w2.heap.size 9 i0 (.string ⟨#[]⟩) 1 16 Tryz.underlying37 hi hz0 hz1 hz2 rfl (by decide) v _ _ (by simp [Act.eval]) (hAP.out.1.alloc _) ⟨W.heap.size, 0, none⟩ 1 1 [.string (s.extract x.val (q + 1))] (by simp [Act.eval]) rfl (cell_one_new _ _ _) (by simp [Value.oneCell']) (by unfold maxLen; omega) (by omega) (by simp; omega) ?_
                      intro v' w3 hown hg hat
                      have hCC := hAP.out.2.1.appended (n0 := ((w2.alloc (.cells #[.slice none 0 0] 37)).alloc (.cells #[.slice (some ⟨w.heap.size + 1 + 1 + 1, 0, none⟩) s.size s.size, .slice (some ⟨M, 0, none⟩) s.size s.size] 94)).heap.size) hAP.out.2.2 hAP.out.1 HO.out (by decide) (Nat.le_refl _) (by omega) (Nat.le_refl _) hown hg (by simpa using hat)
                      obtain ⟨g', c', rfl⟩ := ownsRow_succ hown
                      have hc1 := hCC.1.cell
                      have hf1 := hCC.1.frozen
                      have HCC := Lib.hid hCC
                      clear hCC hown hg hat
                      refine hK _ _ ?_
                      clear hK K
                      refine wpAnyIn_ready (rs := [8]) (by kernel_rfl) (by simp) ?_
                      refine AllReadyIn.cons rfl (fun K hK => ?_) ?_
                      · go_simp
                        refine hK _ _ ?_
                        clear hK K
                        refine wpAnyIn_done (by kernel_rfl) ?_ _
                        have HZ := HCC
                        gi_wp2
                        exact ⟨⟨HZ.out.2.2.1.size, HZ.out.2.2.1.same⟩, ⟨⟨HZ.out.2.2.2.1.1.os, HZ.out.2.2.2.1.1.tape, HZ.out.2.2.2.1.1.output, HZ.out.2.2.2.1.1.size, HZ.out.2.2.2.1.1.block⟩, HZ.out.2.2.2.1.2⟩, HZ.out.2.2.2.2, by show Coll _ _ _ _ _ (facV s (ksOf l) (pre ++ [x])) B w2 _; rw [E.out]; exact HZ.out.2.1⟩
                      exact AllReadyIn.nil
                    exact AllReadyIn.nil
                  exact AllReadyIn.nil
                exact AllReadyIn.nil
              exact AllReadyIn.nil
            refine AllReadyIn.cons rfl (fun K hK => ?_) ?_
            · go_simp
              refine hK _ _ ?_
              clear hK K
              refine wpAnyIn_ready (rs := [1]) (by kernel_rfl) (by simp) ?_
              refine AllReadyIn.cons rfl (fun K hK => ?_) ?_
              · go_simp
                refine hK _ _ ?_
                clear hK K
                refine wpAnyIn_ready (rs := [5]) (by kernel_rfl) (by simp) ?_
                refine AllReadyIn.cons rfl (fun K hK => ?_) ?_
                · go_simp
                  refine hK _ _ ?_
                  clear hK K
                  refine wpAnyIn_ready (rs := [6]) (by kernel_rfl) (by simp) ?_
                  refine AllReadyIn.cons rfl (fun K hK => ?_) ?_
                  · go_simp
                    refine hK _ _ ?_
                    clear hK K
                    refine wpAnyIn_ready (rs := [7]) (by kernel_rfl) (by simp) ?_
                    refine AllReadyIn.cons rfl (fun K hK => ?_) ?_
                    · refine step_append_at_in _ rfl (.tmp 41) (.tmp 47) 37 rfl w2.heap.size 9 i0 (.string ⟨#[]⟩) 1 16 Tryz.underlying37 hi hz0 hz1 hz2 rfl (by decide) v _ _ (by simp [Act.eval]) (hAP.out.1.alloc _) ⟨W.heap.size, 0, none⟩ 1 1 [.string (s.extract x.val (q + 1))] (by simp [Act.eval]) rfl (cell_one_new _ _ _) (by simp [Value.oneCell']) (by unfold maxLen; omega) (by omega) (by simp; omega) ?_
                      intro v' w3 hown hg hat
                      have hCC := hAP.out.2.1.appended (n0 := ((w2.alloc (.cells #[.slice none 0 0] 37)).alloc (.cells #[.slice (some ⟨w.heap.size + 1 + 1 + 1, 0, none⟩) s.size s.size, .slice (some ⟨M, 0, none⟩) s.size s.size] 94)).heap.size) hAP.out.2.2 hAP.out.1 HO.out (by decide) (Nat.le_refl _) (by omega) (Nat.le_refl _) hown hg (by simpa using hat)
                      obtain ⟨g', c', rfl⟩ := ownsRow_succ hown
                      have hc1 := hCC.1.cell
                      have hf1 := hCC.1.frozen
                      have HCC := Lib.hid hCC
                      clear hCC hown hg hat
                      refine hK _ _ ?_
                      clear hK K
                      refine wpAnyIn_ready (rs := [8]) (by kernel_rfl) (by simp) ?_
                      refine AllReadyIn.cons rfl (fun K hK => ?_) ?_
                      · go_simp
                        refine hK _ _ ?_
                        clear hK K
                        refine wpAnyIn_done (by kernel_rfl) ?_ _
                        have HZ := HCC
                        gi_wp2
                        exact ⟨⟨HZ.out.2.2.1.size, HZ.out.2.2.1.same⟩, ⟨⟨HZ.out.2.2.2.1.1.os, HZ.out.2.2.2.1.1.tape, HZ.out.2.2.2.1.1.output, HZ.out.2.2.2.1.1.size, HZ.out.2.2.2.1.1.block⟩, HZ.out.2.2.2.1.2⟩, HZ.out.2.2.2.2, by show Coll _ _ _ _ _ (facV s (ksOf l) (pre ++ [x])) B w2 _; rw [E.out]; exact HZ.out.2.1⟩
                      exact AllReadyIn.nil
                    exact AllReadyIn.nil
                  exact AllReadyIn.nil
                exact AllReadyIn.nil
              exact AllReadyIn.nil
            exact AllReadyIn.nil
          exact AllReadyIn.nil
        refine AllReadyIn.cons rfl (fun K hK => ?_) ?_
        · go_simp
          refine hK _ _ ?_
          clear hK K
          refine wpAnyIn_ready (rs := [0, 2, 4]) (by kernel_rfl) (by simp) ?_
          refine AllReadyIn.cons rfl (fun K hK => ?_) ?_
          · go_simp
            refine hK _ _ ?_
            clear hK K
            refine wpAnyIn_ready (rs := [2, 4]) (by kernel_rfl) (by simp) ?_
            refine AllReadyIn.cons rfl (fun K hK => ?_) ?_
            · go_simp
              refine hK _ _ ?_
              clear hK K
              refine wpAnyIn_ready (rs := [4]) (by kernel_rfl) (by simp) ?_
              refine AllReadyIn.cons rfl (fun K hK => ?_) ?_
              · go_simp
                refine hK _ _ ?_
                clear hK K
                refine wpAnyIn_ready (rs := [5]) (by kernel_rfl) (by simp) ?_
                refine AllReadyIn.cons rfl (fun K hK => ?_) ?_
                · go_simp
                  refine hK _ _ ?_
                  clear hK K
                  refine wpAnyIn_ready (rs := [6]) (by kernel_rfl) (by simp) ?_
                  refine AllReadyIn.cons rfl (fun K hK => ?_) ?_
                  · go_simp
                    refine hK _ _ ?_
                    clear hK K
                    refine wpAnyIn_ready (rs := [7]) (by kernel_rfl) (by simp) ?_
                    refine AllReadyIn.cons rfl (fun K hK => ?_) ?_
                    · refine step_append_at_in _ rfl (.tmp 41) (.tmp 47) 37 rfl w2.heap.size 9 i0 (.string ⟨#[]⟩) 1 16 Tryz.underlying37 hi hz0 hz1 hz2 rfl (by decide) v _ _ (by simp [Act.eval]) (hAP.out.1.alloc _) ⟨W.heap.size, 0, none⟩ 1 1 [.string (s.extract x.val (q + 1))] (by simp [Act.eval]) rfl (cell_one_new _ _ _) (by simp [Value.oneCell']) (by unfold maxLen; omega) (by omega) (by simp; omega) ?_
                      intro v' w3 hown hg hat
                      have hCC := hAP.out.2.1.appended (n0 := ((w2.alloc (.cells #[.slice none 0 0] 37)).alloc (.cells #[.slice (some ⟨w.heap.size + 1 + 1 + 1, 0, none⟩) s.size s.size, .slice (some ⟨M, 0, none⟩) s.size s.size] 94)).heap.size) hAP.out.2.2 hAP.out.1 HO.out (by decide) (Nat.le_refl _) (by omega) (Nat.le_refl _) hown hg (by simpa using hat)
                      obtain ⟨g', c', rfl⟩ := ownsRow_succ hown
                      have hc1 := hCC.1.cell
                      have hf1 := hCC.1.frozen
                      have HCC := Lib.hid hCC
                      clear hCC hown hg hat
                      refine hK _ _ ?_
                      clear hK K
                      refine wpAnyIn_ready (rs := [8]) (by kernel_rfl) (by simp) ?_
                      refine AllReadyIn.cons rfl (fun K hK => ?_) ?_
                      · go_simp
                        refine hK _ _ ?_
                        clear hK K
                        refine wpAnyIn_done (by kernel_rfl) ?_ _
                        have HZ := HCC
                        gi_wp2
                        exact ⟨⟨HZ.out.2.2.1.size, HZ.out.2.2.1.same⟩, ⟨⟨HZ.out.2.2.2.1.1.os, HZ.out.2.2.2.1.1.tape, HZ.out.2.2.2.1.1.output, HZ.out.2.2.2.1.1.size, HZ.out.2.2.2.1.1.block⟩, HZ.out.2.2.2.1.2⟩, HZ.out.2.2.2.2, by show Coll _ _ _ _ _ (facV s (ksOf l) (pre ++ [x])) B w2 _; rw [E.out]; exact HZ.out.2.1⟩
                      exact AllReadyIn.nil
                    exact AllReadyIn.nil
                  exact AllReadyIn.nil
                exact AllReadyIn.nil
              exact AllReadyIn.nil
            refine AllReadyIn.cons rfl (fun K hK => ?_) ?_
            · go_simp
              refine hK _ _ ?_
              clear hK K
              refine wpAnyIn_ready (rs := [2]) (by kernel_rfl) (by simp) ?_
              refine AllReadyIn.cons rfl (fun K hK => ?_) ?_
              · go_simp
                refine hK _ _ ?_
                clear hK K
                refine wpAnyIn_ready (rs := [5]) (by kernel_rfl) (by simp) ?_
                refine AllReadyIn.cons rfl (fun K hK => ?_) ?_
                · go_simp
                  refine hK _ _ ?_
                  clear hK K
                  refine wpAnyIn_ready (rs := [6]) (by kernel_rfl) (by simp) ?_
                  refine AllReadyIn.cons rfl (fun K hK => ?_) ?_
                  · go_simp
                    refine hK _ _ ?_
                    clear hK K
                    refine wpAnyIn_ready (rs := [7]) (by kernel_rfl) (by simp) ?_
                    refine AllReadyIn.cons rfl (fun K hK => ?_) ?_
                    · refine step_append_at_in _ rfl (.tmp 41) (.tmp 47) 37 rfl w2.heap.size 9 i0 (.string ⟨#[]⟩) 1 16 Tryz.underlying37 hi hz0 hz1 hz2 rfl (by decide) v _ _ (by simp [Act.eval]) (hAP.out.1.alloc _) ⟨W.heap.size, 0, none⟩ 1 1 [.string (s.extract x.val (q + 1))] (by simp [Act.eval]) rfl (cell_one_new _ _ _) (by simp [Value.oneCell']) (by unfold maxLen; omega) (by omega) (by simp; omega) ?_
                      intro v' w3 hown hg hat
                      have hCC := hAP.out.2.1.appended (n0 := ((w2.alloc (.cells #[.slice none 0 0] 37)).alloc (.cells #[.slice (some ⟨w.heap.size + 1 + 1 + 1, 0, none⟩) s.size s.size, .slice (some ⟨M, 0, none⟩) s.size s.size] 94)).heap.size) hAP.out.2.2 hAP.out.1 HO.out (by decide) (Nat.le_refl _) (by omega) (Nat.le_refl _) hown hg (by simpa using hat)
                      obtain ⟨g', c', rfl⟩ := ownsRow_succ hown
                      have hc1 := hCC.1.cell
                      have hf1 := hCC.1.frozen
                      have HCC := Lib.hid hCC
                      clear hCC hown hg hat
                      refine hK _ _ ?_
                      clear hK K
                      refine wpAnyIn_ready (rs := [8]) (by kernel_rfl) (by simp) ?_
                      refine AllReadyIn.cons rfl (fun K hK => ?_) ?_
                      · go_simp
                        refine hK _ _ ?_
                        clear hK K
                        refine wpAnyIn_done (by kernel_rfl) ?_ _
                        have HZ := HCC
                        gi_wp2
                        exact ⟨⟨HZ.out.2.2.1.size, HZ.out.2.2.1.same⟩, ⟨⟨HZ.out.2.2.2.1.1.os, HZ.out.2.2.2.1.1.tape, HZ.out.2.2.2.1.1.output, HZ.out.2.2.2.1.1.size, HZ.out.2.2.2.1.1.block⟩, HZ.out.2.2.2.1.2⟩, HZ.out.2.2.2.2, by show Coll _ _ _ _ _ (facV s (ksOf l) (pre ++ [x])) B w2 _; rw [E.out]; exact HZ.out.2.1⟩
                      exact AllReadyIn.nil
                    exact AllReadyIn.nil
                  exact AllReadyIn.nil
                exact AllReadyIn.nil
              exact AllReadyIn.nil
            exact AllReadyIn.nil
          refine AllReadyIn.cons rfl (fun K hK => ?_) ?_
          · go_simp
            refine hK _ _ ?_
            clear hK K
            refine wpAnyIn_ready (rs := [0, 4]) (by kernel_rfl) (by simp) ?_
            refine AllReadyIn.cons rfl (fun K hK => ?_) ?_
            · go_simp
              refine hK _ _ ?_
              clear hK K
              refine wpAnyIn_ready (rs := [4]) (by kernel_rfl) (by simp) ?_
              refine AllReadyIn.cons rfl (fun K hK => ?_) ?_
              · go_simp
                refine hK _ _ ?_
                clear hK K
                refine wpAnyIn_ready (rs := [5]) (by kernel_rfl) (by simp) ?_
                refine AllReadyIn.cons rfl (fun K hK => ?_) ?_
                · go_simp
                  refine hK _ _ ?_
                  clear hK K
                  refine wpAnyIn_ready (rs := [6]) (by kernel_rfl) (by simp) ?_
                  refine AllReadyIn.cons rfl (fun K hK => ?_) ?_
                  · go_simp
                    refine hK _ _ ?_
                    clear hK K
                    refine wpAnyIn_ready (rs := [7]) (by kernel_rfl) (by simp) ?_
                    refine AllReadyIn.cons rfl (fun K hK => ?_) ?_
                    · refine step_append_at_in _ rfl (.tmp 41) (.tmp 47) 37 rfl w2.heap.size 9 i0 (.string ⟨#[]⟩) 1 16 Tryz.underlying37 hi hz0 hz1 hz2 rfl (by decide) v _ _ (by simp [Act.eval]) (hAP.out.1.alloc _) ⟨W.heap.size, 0, none⟩ 1 1 [.string (s.extract x.val (q + 1))] (by simp [Act.eval]) rfl (cell_one_new _ _ _) (by simp [Value.oneCell']) (by unfold maxLen; omega) (by omega) (by simp; omega) ?_
                      intro v' w3 hown hg hat
                      have hCC := hAP.out.2.1.appended (n0 := ((w2.alloc (.cells #[.slice none 0 0] 37)).alloc (.cells #[.slice (some ⟨w.heap.size + 1 + 1 + 1, 0, none⟩) s.size s.size, .slice (some ⟨M, 0, none⟩) s.size s.size] 94)).heap.size) hAP.out.2.2 hAP.out.1 HO.out (by decide) (Nat.le_refl _) (by omega) (Nat.le_refl _) hown hg (by simpa using hat)
                      obtain ⟨g', c', rfl⟩ := ownsRow_succ hown
                      have hc1 := hCC.1.cell
                      have hf1 := hCC.1.frozen
                      have HCC := Lib.hid hCC
                      clear hCC hown hg hat
                      refine hK _ _ ?_
                      clear hK K
                      refine wpAnyIn_ready (rs := [8]) (by kernel_rfl) (by simp) ?_
                      refine AllReadyIn.cons rfl (fun K hK => ?_) ?_
                      · go_simp
                        refine hK _ _ ?_
                        clear hK K
                        refine wpAnyIn_done (by kernel_rfl) ?_ _
                        have HZ := HCC
                        gi_wp2
                        exact ⟨⟨HZ.out.2.2.1.size, HZ.out.2.2.1.same⟩, ⟨⟨HZ.out.2.2.2.1.1.os, HZ.out.2.2.2.1.1.tape, HZ.out.2.2.2.1.1.output, HZ.out.2.2.2.1.1.size, HZ.out.2.2.2.1.1.block⟩, HZ.out.2.2.2.1.2⟩, HZ.out.2.2.2.2, by show Coll _ _ _ _ _ (facV s (ksOf l) (pre ++ [x])) B w2 _; rw [E.out]; exact HZ.out.2.1⟩
                      exact AllReadyIn.nil
                    exact AllReadyIn.nil
                  exact AllReadyIn.nil
                exact AllReadyIn.nil
              exact AllReadyIn.nil
            refine AllReadyIn.cons rfl (fun K hK => ?_) ?_
            · go_simp
              refine hK _ _ ?_
              clear hK K
              refine wpAnyIn_ready (rs := [0, 5]) (by kernel_rfl) (by simp) ?_
              refine AllReadyIn.cons rfl (fun K hK => ?_) ?_
              · go_simp
                refine hK _ _ ?_
                clear hK K
                refine wpAnyIn_ready (rs := [5]) (by kernel_rfl) (by simp) ?_
                refine AllReadyIn.cons rfl (fun K hK => ?_) ?_
                · go_simp
                  refine hK _ _ ?_
                  clear hK K
                  refine wpAnyIn_ready (rs := [6]) (by kernel_rfl) (by simp) ?_
                  refine AllReadyIn.cons rfl (fun K hK => ?_) ?_
                  · go_simp
                    refine hK _ _ ?_
                    clear hK K
                    refine wpAnyIn_ready (rs := [7]) (by kernel_rfl) (by simp) ?_
                    refine AllReadyIn.cons rfl (fun K hK => ?_) ?_
                    · refine step_append_at_in _ rfl (.tmp 41) (.tmp 47) 37 rfl w2.heap.size 9 i0 (.string ⟨#[]⟩) 1 16 Tryz.underlying37 hi hz0 hz1 hz2 rfl (by decide) v _ _ (by simp [Act.eval]) (hAP.out.1.alloc _) ⟨W.heap.size, 0, none⟩ 1 1 [.string (s.extract x.val (q + 1))] (by simp [Act.eval]) rfl (cell_one_new _ _ _) (by simp [Value.oneCell']) (by unfold maxLen; omega) (by omega) (by simp; omega) ?_
                      intro v' w3 hown hg hat
                      have hCC := hAP.out.2.1.appended (n0 := ((w2.alloc (.cells #[.slice none 0 0] 37)).alloc (.cells #[.slice (some ⟨w.heap.size + 1 + 1 + 1, 0, none⟩) s.size s.size, .slice (some ⟨M, 0, none⟩) s.size s.size] 94)).heap.size) hAP.out.2.2 hAP.out.1 HO.out (by decide) (Nat.le_refl _) (by omega) (Nat.le_refl _) hown hg (by simpa using hat)
                      obtain ⟨g', c', rfl⟩ := ownsRow_succ hown
                      have hc1 := hCC.1.cell
                      have hf1 := hCC.1.frozen
                      have HCC := Lib.hid hCC
                      clear hCC hown hg hat
                      refine hK _ _ ?_
                      clear hK K
                      refine wpAnyIn_ready (rs := [8]) (by kernel_rfl) (by simp) ?_
                      refine AllReadyIn.cons rfl (fun K hK => ?_) ?_
                      · go_simp
                        refine hK _ _ ?_
                        clear hK K
                        refine wpAnyIn_done (by kernel_rfl) ?_ _
                        have HZ := HCC
                        gi_wp2
                        exact ⟨⟨HZ.out.2.2.1.size, HZ.out.2.2.1.same⟩, ⟨⟨HZ.out.2.2.2.1.1.os, HZ.out.2.2.2.1.1.tape, HZ.out.2.2.2.1.1.output, HZ.out.2.2.2.1.1.size, HZ.out.2.2.2.1.1.block⟩, HZ.out.2.2.2.1.2⟩, HZ.out.2.2.2.2, by show Coll _ _ _ _ _ (facV s (ksOf l) (pre ++ [x])) B w2 _; rw [E.out]; exact HZ.out.2.1⟩
                      exact AllReadyIn.nil
                    exact AllReadyIn.nil
                  exact AllReadyIn.nil
                exact AllReadyIn.nil
              refine AllReadyIn.cons rfl (fun K hK => ?_) ?_
              · go_simp
                refine hK _ _ ?_
                clear hK K
                refine wpAnyIn_ready (rs := [0, 6]) (by kernel_rfl) (by simp) ?_
                refine AllReadyIn.cons rfl (fun K hK => ?_) ?_
                · go_simp
                  refine hK _ _ ?_
                  clear hK K
                  refine wpAnyIn_ready (rs := [6]) (by kernel_rfl) (by simp) ?_
                  refine AllReadyIn.cons rfl (fun K hK => ?_) ?_
                  · go_simp
                    refine hK _ _ ?_
                    clear hK K
                    refine wpAnyIn_ready (rs := [7]) (by kernel_rfl) (by simp) ?_
                    refine AllReadyIn.cons rfl (fun K hK => ?_) ?_
                    · refine step_append_at_in _ rfl (.tmp 41) (.tmp 47) 37 rfl w2.heap.size 9 i0 (.string ⟨#[]⟩) 1 16 Tryz.underlying37 hi hz0 hz1 hz2 rfl (by decide) v _ _ (by simp [Act.eval]) (hAP.out.1.alloc _) ⟨W.heap.size, 0, none⟩ 1 1 [.string (s.extract x.val (q + 1))] (by simp [Act.eval]) rfl (cell_one_new _ _ _) (by simp [Value.oneCell']) (by unfold maxLen; omega) (by omega) (by simp; omega) ?_
                      intro v' w3 hown hg hat
                      have hCC := hAP.out.2.1.appended (n0 := ((w2.alloc (.cells #[.slice none 0 0] 37)).alloc (.cells #[.slice (some ⟨w.heap.size + 1 + 1 + 1, 0, none⟩) s.size s.size, .slice (some ⟨M, 0, none⟩) s.size s.size] 94)).heap.size) hAP.out.2.2 hAP.out.1 HO.out (by decide) (Nat.le_refl _) (by omega) (Nat.le_refl _) hown hg (by simpa using hat)
                      obtain ⟨g', c', rfl⟩ := ownsRow_succ hown
                      have hc1 := hCC.1.cell
                      have hf1 := hCC.1.frozen
                      have HCC := Lib.hid hCC
                      clear hCC hown hg hat
                      refine hK _ _ ?_
                      clear hK K
                      refine wpAnyIn_ready (rs := [8]) (by kernel_rfl) (by simp) ?_
                      refine AllReadyIn.cons rfl (fun K hK => ?_) ?_
                      · go_simp
                        refine hK _ _ ?_
                        clear hK K
                        refine wpAnyIn_done (by kernel_rfl) ?_ _
                        have HZ := HCC
                        gi_wp2
                        exact ⟨⟨HZ.out.2.2.1.size, HZ.out.2.2.1.same⟩, ⟨⟨HZ.out.2.2.2.1.1.os, HZ.out.2.2.2.1.1.tape, HZ.out.2.2.2.1.1.output, HZ.out.2.2.2.1.1.size, HZ.out.2.2.2.1.1.block⟩, HZ.out.2.2.2.1.2⟩, HZ.out.2.2.2.2, by show Coll _ _ _ _ _ (facV s (ksOf l) (pre ++ [x])) B w2 _; rw [E.out]; exact HZ.out.2.1⟩
                      exact AllReadyIn.nil
                    exact AllReadyIn.nil
                  exact AllReadyIn.nil
                refine AllReadyIn.cons rfl (fun K hK => ?_) ?_
                · go_simp
                  refine hK _ _ ?_
                  clear hK K
                  refine wpAnyIn_ready (rs := [0]) (by kernel_rfl) (by simp) ?_
                  refine AllReadyIn.cons rfl (fun K hK => ?_) ?_
                  · go_simp
                    refine hK _ _ ?_
                    clear hK K
                    refine wpAnyIn_ready (rs := [7]) (by kernel_rfl) (by simp) ?_
                    refine AllReadyIn.cons rfl (fun K hK => ?_) ?_
                    · refine step_append_at_in _ rfl (.tmp 41) (.tmp 47) 37 rfl w2.heap.size 9 i0 (.string ⟨#[]⟩) 1 16 Tryz.underlying37 hi hz0 hz1 hz2 rfl (by decide) v _ _ (by simp [Act.eval]) (hAP.out.1.alloc _) ⟨W.heap.size, 0, none⟩ 1 1 [.string (s.extract x.val (q + 1))] (by simp [Act.eval]) rfl (cell_one_new _ _ _) (by simp [Value.oneCell']) (by unfold maxLen; omega) (by omega) (by simp; omega) ?_
                      intro v' w3 hown hg hat
                      have hCC := hAP.out.2.1.appended (n0 := ((w2.alloc (.cells #[.slice none 0 0] 37)).alloc (.cells #[.slice (some ⟨w.heap.size + 1 + 1 + 1, 0, none⟩) s.size s.size, .slice (some ⟨M, 0, none⟩) s.size s.size] 94)).heap.size) hAP.out.2.2 hAP.out.1 HO.out (by decide) (Nat.le_refl _) (by omega) (Nat.le_refl _) hown hg (by simpa using hat)
                      obtain ⟨g', c', rfl⟩ := ownsRow_succ hown
                      have hc1 := hCC.1.cell
                      have hf1 := hCC.1.frozen
                      have HCC := Lib.hid hCC
                      clear hCC hown hg hat
                      refine hK _ _ ?_
                      clear hK K
                      refine wpAnyIn_ready (rs := [8]) (by kernel_rfl) (by simp) ?_
                      refine AllReadyIn.cons rfl (fun K hK => ?_) ?_
                      · go_simp
                        refine hK _ _ ?_
                        clear hK K
                        refine wpAnyIn_done (by kernel_rfl) ?_ _
                        have HZ := HCC
                        gi_wp2
                        exact ⟨⟨HZ.out.2.2.1.size, HZ.out.2.2.1.same⟩, ⟨⟨HZ.out.2.2.2.1.1.os, HZ.out.2.2.2.1.1.tape, HZ.out.2.2.2.1.1.output, HZ.out.2.2.2.1.1.size, HZ.out.2.2.2.1.1.block⟩, HZ.out.2.2.2.1.2⟩, HZ.out.2.2.2.2, by show Coll _ _ _ _ _ (facV s (ksOf l) (pre ++ [x])) B w2 _; rw [E.out]; exact HZ.out.2.1⟩
                      exact AllReadyIn.nil
                    exact AllReadyIn.nil
                  exact AllReadyIn.nil
                exact AllReadyIn.nil
              exact AllReadyIn.nil
            exact AllReadyIn.nil
          refine AllReadyIn.cons rfl (fun K hK => ?_) ?_
          · go_simp
            refine hK _ _ ?_
            clear hK K
            refine wpAnyIn_ready (rs := [0, 2]) (by kernel_rfl) (by simp) ?_
            refine AllReadyIn.cons rfl (fun K hK => ?_) ?_
            · go_simp
              refine hK _ _ ?_
              clear hK K
              refine wpAnyIn_ready (rs := [2]) (by kernel_rfl) (by simp) ?_
              refine AllReadyIn.cons rfl (fun K hK => ?_) ?_
              · go_simp
                refine hK _ _ ?_
                clear hK K
                refine wpAnyIn_ready (rs := [5]) (by kernel_rfl) (by simp) ?_
                refine AllReadyIn.cons rfl (fun K hK => ?_) ?_
                · go_simp
                  refine hK _ _ ?_
                  clear hK K
                  refine wpAnyIn_ready (rs := [6]) (by kernel_rfl) (by simp) ?_
                  refine AllReadyIn.cons rfl (fun K hK => ?_) ?_
                  · go_simp
                    refine hK _ _ ?_
                    clear hK K
                    refine wpAnyIn_ready (rs := [7]) (by kernel_rfl) (by simp) ?_
                    refine AllReadyIn.cons rfl (fun K hK => ?_) ?_
                    · refine step_append_at_in _ rfl (.tmp 41) (.tmp 47) 37 rfl w2.heap.size 9 i0 (.string ⟨#[]⟩) 1 16 Tryz.underlying37 hi hz0 hz1 hz2 rfl (by decide) v _ _ (by simp [Act.eval]) (hAP.out.1.alloc _) ⟨W.heap.size, 0, none⟩ 1 1 [.string (s.extract x.val (q + 1))] (by simp [Act.eval]) rfl (cell_one_new _ _ _) (by simp [Value.oneCell']) (by unfold maxLen; omega) (by omega) (by simp; omega) ?_
                      intro v' w3 hown hg hat
                      have hCC := hAP.out.2.1.appended (n0 := ((w2.alloc (.cells #[.slice none 0 0] 37)).alloc (.cells #[.slice (some ⟨w.heap.size + 1 + 1 + 1, 0, none⟩) s.size s.size, .slice (some ⟨M, 0, none⟩) s.size s.size] 94)).heap.size) hAP.out.2.2 hAP.out.1 HO.out (by decide) (Nat.le_refl _) (by omega) (Nat.le_refl _) hown hg (by simpa using hat)
                      obtain ⟨g', c', rfl⟩ := ownsRow_succ hown
                      have hc1 := hCC.1.cell
                      have hf1 := hCC.1.frozen
                      have HCC := Lib.hid hCC
                      clear hCC hown hg hat
                      refine hK _ _ ?_
                      clear hK K
                      refine wpAnyIn_ready (rs := [8]) (by kernel_rfl) (by simp) ?_
                      refine AllReadyIn.cons rfl (fun K hK => ?_) ?_
                      · go_simp
                        refine hK _ _ ?_
                        clear hK K
                        refine wpAnyIn_done (by kernel_rfl) ?_ _
                        have HZ := HCC
                        gi_wp2
                        exact ⟨⟨HZ.out.2.2.1.size, HZ.out.2.2.1.same⟩, ⟨⟨HZ.out.2.2.2.1.1.os, HZ.out.2.2.2.1.1.tape, HZ.out.2.2.2.1.1.output, HZ.out.2.2.2.1.1.size, HZ.out.2.2.2.1.1.block⟩, HZ.out.2.2.2.1.2⟩, HZ.out.2.2.2.2, by show Coll _ _ _ _ _ (facV s (ksOf l) (pre ++ [x])) B w2 _; rw [E.out]; exact HZ.out.2.1⟩
                      exact AllReadyIn.nil
                    exact AllReadyIn.nil
                  exact AllReadyIn.nil
                exact AllReadyIn.nil
              exact AllReadyIn.nil
            refine AllReadyIn.cons rfl (fun K hK => ?_) ?_
            · go_simp
              refine hK _ _ ?_
              clear hK K
              refine wpAnyIn_ready (rs := [0, 5]) (by kernel_rfl) (by simp) ?_
              refine AllReadyIn.cons rfl (fun K hK => ?_) ?_
              · go_simp
                refine hK _ _ ?_
                clear hK K
                refine wpAnyIn_ready (rs := [5]) (by kernel_rfl) (by simp) ?_
                refine AllReadyIn.cons rfl (fun K hK => ?_) ?_
                · go_simp
                  refine hK _ _ ?_
                  clear hK K
                  refine wpAnyIn_ready (rs := [6]) (by kernel_rfl) (by simp) ?_
                  refine AllReadyIn.cons rfl (fun K hK => ?_) ?_
                  · go_simp
                    refine hK _ _ ?_
                    clear hK K
                    refine wpAnyIn_ready (rs := [7]) (by kernel_rfl) (by simp) ?_
                    refine AllReadyIn.cons rfl (fun K hK => ?_) ?_
                    · refine step_append_at_in _ rfl (.tmp 41) (.tmp 47) 37 rfl w2.heap.size 9 i0 (.string ⟨#[]⟩) 1 16 Tryz.underlying37 hi hz0 hz1 hz2 rfl (by decide) v _ _ (by simp [Act.eval]) (hAP.out.1.alloc _) ⟨W.heap.size, 0, none⟩ 1 1 [.string (s.extract x.val (q + 1))] (by simp [Act.eval]) rfl (cell_one_new _ _ _) (by simp [Value.oneCell']) (by unfold maxLen; omega) (by omega) (by simp; omega) ?_
                      intro v' w3 hown hg hat
                      have hCC := hAP.out.2.1.appended (n0 := ((w2.alloc (.cells #[.slice none 0 0] 37)).alloc (.cells #[.slice (some ⟨w.heap.size + 1 + 1 + 1, 0, none⟩) s.size s.size, .slice (some ⟨M, 0, none⟩) s.size s.size] 94)).heap.size) hAP.out.2.2 hAP.out.1 HO.out (by decide) (Nat.le_refl _) (by omega) (Nat.le_refl _) hown hg (by simpa using hat)
                      obtain ⟨g', c', rfl⟩ := ownsRow_succ hown
                      have hc1 := hCC.1.cell
                      have hf1 := hCC.1.frozen
                      have HCC := Lib.hid hCC
                      clear hCC hown hg hat
                      refine hK _ _ ?_
                      clear hK K
                      refine wpAnyIn_ready (rs := [8]) (by kernel_rfl) (by simp) ?_
                      refine AllReadyIn.cons rfl (fun K hK => ?_) ?_
                      · go_simp
                        refine hK _ _ ?_
                        clear hK K
                        refine wpAnyIn_done (by kernel_rfl) ?_ _
                        have HZ := HCC
                        gi_wp2
                        exact ⟨⟨HZ.out.2.2.1.size, HZ.out.2.2.1.same⟩, ⟨⟨HZ.out.2.2.2.1.1.os, HZ.out.2.2.2.1.1.tape, HZ.out.2.2.2.1.1.output, HZ.out.2.2.2.1.1.size, HZ.out.2.2.2.1.1.block⟩, HZ.out.2.2.2.1.2⟩, HZ.out.2.2.2.2, by show Coll _ _ _ _ _ (facV s (ksOf l) (pre ++ [x])) B w2 _; rw [E.out]; exact HZ.out.2.1⟩
                      exact AllReadyIn.nil
                    exact AllReadyIn.nil
                  exact AllReadyIn.nil
                exact AllReadyIn.nil
              refine AllReadyIn.cons rfl (fun K hK => ?_) ?_
              · go_simp
                refine hK _ _ ?_
                clear hK K
                refine wpAnyIn_ready (rs := [0, 6]) (by kernel_rfl) (by simp) ?_
                refine AllReadyIn.cons rfl (fun K hK => ?_) ?_
                · go_simp
                  refine hK _ _ ?_
                  clear hK K
                  refine wpAnyIn_ready (rs := [6]) (by kernel_rfl) (by simp) ?_
                  refine AllReadyIn.cons rfl (fun K hK => ?_) ?_
                  · go_simp
                    refine hK _ _ ?_
                    clear hK K
                    refine wpAnyIn_ready (rs := [7]) (by kernel_rfl) (by simp) ?_
                    refine AllReadyIn.cons rfl (fun K hK => ?_) ?_
                    · refine step_append_at_in _ rfl (.tmp 41) (.tmp 47) 37 rfl w2.heap.size 9 i0 (.string ⟨#[]⟩) 1 16 Tryz.underlying37 hi hz0 hz1 hz2 rfl (by decide) v _ _ (by simp [Act.eval]) (hAP.out.1.alloc _) ⟨W.heap.size, 0, none⟩ 1 1 [.string (s.extract x.val (q + 1))] (by simp [Act.eval]) rfl (cell_one_new _ _ _) (by simp [Value.oneCell']) (by unfold maxLen; omega) (by omega) (by simp; omega) ?_
                      intro v' w3 hown hg hat
                      have hCC := hAP.out.2.1.appended (n0 := ((w2.alloc (.cells #[.slice none 0 0] 37)).alloc (.cells #[.slice (some ⟨w.heap.size + 1 + 1 + 1, 0, none⟩) s.size s.size, .slice (some ⟨M, 0, none⟩) s.size s.size] 94)).heap.size) hAP.out.2.2 hAP.out.1 HO.out (by decide) (Nat.le_refl _) (by omega) (Nat.le_refl _) hown hg (by simpa using hat)
                      obtain ⟨g', c', rfl⟩ := ownsRow_succ hown
                      have hc1 := hCC.1.cell
                      have hf1 := hCC.1.frozen
                      have HCC := Lib.hid hCC
                      clear hCC hown hg hat
                      refine hK _ _ ?_
                      clear hK K
                      refine wpAnyIn_ready (rs := [8]) (by kernel_rfl) (by simp) ?_
                      refine AllReadyIn.cons rfl (fun K hK => ?_) ?_
                      · go_simp
                        refine hK _ _ ?_
                        clear hK K
                        refine wpAnyIn_done (by kernel_rfl) ?_ _
                        have HZ := HCC
                        gi_wp2
                        exact ⟨⟨HZ.out.2.2.1.size, HZ.out.2.2.1.same⟩, ⟨⟨HZ.out.2.2.2.1.1.os, HZ.out.2.2.2.1.1.tape, HZ.out.2.2.2.1.1.output, HZ.out.2.2.2.1.1.size, HZ.out.2.2.2.1.1.block⟩, HZ.out.2.2.2.1.2⟩, HZ.out.2.2.2.2, by show Coll _ _ _ _ _ (facV s (ksOf l) (pre ++ [x])) B w2 _; rw [E.out]; exact HZ.out.2.1⟩
                      exact AllReadyIn.nil
                    exact AllReadyIn.nil
                  exact AllReadyIn.nil
                refine AllReadyIn.cons rfl (fun K hK => ?_) ?_
                · go_simp
                  refine hK _ _ ?_
                  clear hK K
                  refine wpAnyIn_ready (rs := [0]) (by kernel_rfl) (by simp) ?_
                  refine AllReadyIn.cons rfl (fun K hK => ?_) ?_
                  · go_simp
                    refine hK _ _ ?_
                    clear hK K
                    refine wpAnyIn_ready (rs := [7]) (by kernel_rfl) (by simp) ?_
                    refine AllReadyIn.cons rfl (fun K hK => ?_) ?_
                    · refine step_append_at_in _ rfl (.tmp 41) (.tmp 47) 37 rfl w2.heap.size 9 i0 (.string ⟨#[]⟩) 1 16 Tryz.underlying37 hi hz0 hz1 hz2 rfl (by decide) v _ _ (by simp [Act.eval]) (hAP.out.1.alloc _) ⟨W.heap.size, 0, none⟩ 1 1 [.string (s.extract x.val (q + 1))] (by simp [Act.eval]) rfl (cell_one_new _ _ _) (by simp [Value.oneCell']) (by unfold maxLen; omega) (by omega) (by simp; omega) ?_
                      intro v' w3 hown hg hat
                      have hCC := hAP.out.2.1.appended (n0 := ((w2.alloc (.cells #[.slice none 0 0] 37)).alloc (.cells #[.slice (some ⟨w.heap.size + 1 + 1 + 1, 0, none⟩) s.size s.size, .slice (some ⟨M, 0, none⟩) s.size s.size] 94)).heap.size) hAP.out.2.2 hAP.out.1 HO.out (by decide) (Nat.le_refl _) (by omega) (Nat.le_refl _) hown hg (by simpa using hat)
                      obtain ⟨g', c', rfl⟩ := ownsRow_succ hown
                      have hc1 := hCC.1.cell
                      have hf1 := hCC.1.frozen
                      have HCC := Lib.hid hCC
                      clear hCC hown hg hat
                      refine hK _ _ ?_
                      clear hK K
                      refine wpAnyIn_ready (rs := [8]) (by kernel_rfl) (by simp) ?_
                      refine AllReadyIn.cons rfl (fun K hK => ?_) ?_
                      · go_simp
                        refine hK _ _ ?_
                        clear hK K
                        refine wpAnyIn_done (by kernel_rfl) ?_ _
                        have HZ := HCC
                        gi_wp2
                        exact ⟨⟨HZ.out.2.2.1.size, HZ.out.2.2.1.same⟩, ⟨⟨HZ.out.2.2.2.1.1.os, HZ.out.2.2.2.1.1.tape, HZ.out.2.2.2.1.1.output, HZ.out.2.2.2.1.1.size, HZ.out.2.2.2.1.1.block⟩, HZ.out.2.2.2.1.2⟩, HZ.out.2.2.2.2, by show Coll _ _ _ _ _ (facV s (ksOf l) (pre ++ [x])) B w2 _; rw [E.out]; exact HZ.out.2.1⟩
                      exact AllReadyIn.nil
                    exact AllReadyIn.nil
                  exact AllReadyIn.nil
                exact AllReadyIn.nil
              exact AllReadyIn.nil
            exact AllReadyIn.nil
          exact AllReadyIn.nil
        refine AllReadyIn.cons rfl (fun K hK => ?_) ?_
        · go_simp
          refine hK _ _ ?_
          clear hK K
          refine wpAnyIn_ready (rs := [0, 1, 4]) (by kernel_rfl) (by simp) ?_
          refine AllReadyIn.cons rfl (fun K hK => ?_) ?_
          · go_simp
            refine hK _ _ ?_
            clear hK K
            refine wpAnyIn_ready (rs := [1, 4]) (by kernel_rfl) (by simp) ?_
            refine AllReadyIn.cons rfl (fun K hK => ?_) ?_
            · go_simp
              refine hK _ _ ?_
              clear hK K
              refine wpAnyIn_ready (rs := [4]) (by kernel_rfl) (by simp) ?_
              refine AllReadyIn.cons rfl (fun K hK => ?_) ?_
              · go_simp
                refine hK _ _ ?_
                clear hK K
                refine wpAnyIn_ready (rs := [5]) (by kernel_rfl) (by simp) ?_
                refine AllReadyIn.cons rfl (fun K hK => ?_) ?_
                · go_simp
                  refine hK _ _ ?_
                  clear hK K
                  refine wpAnyIn_ready (rs := [6]) (by kernel_rfl) (by simp) ?_
                  refine AllReadyIn.cons rfl (fun K hK => ?_) ?_
                  · go_simp
                    refine hK _ _ ?_
                    clear hK K
                    refine wpAnyIn_ready (rs := [7]) (by kernel_rfl) (by simp) ?_
                    refine AllReadyIn.cons rfl (fun K hK => ?_) ?_
                    · refine step_append_at_in _ rfl (.tmp 41) (.tmp 47) 37 rfl w2.heap.size 9 i0 (.string ⟨#[]⟩) 1 16 Tryz.underlying37 hi hz0 hz1 hz2 rfl (by decide) v _ _ (by simp [Act.eval]) (hAP.out.1.alloc _) ⟨W.heap.size, 0, none⟩ 1 1 [.string (s.extract x.val (q + 1))] (by simp [Act.eval]) rfl (cell_one_new _ _ _) (by simp [Value.oneCell']) (by unfold maxLen; omega) (by omega) (by simp; omega) ?_
                      intro v' w3 hown hg hat
                      have hCC := hAP.out.2.1.appended (n0 := ((w2.alloc (.cells #[.slice none 0 0] 37)).alloc (.cells #[.slice (some ⟨w.heap.size + 1 + 1 + 1, 0, none⟩) s.size s.size, .slice (some ⟨M, 0, none⟩) s.size s.size] 94)).heap.size) hAP.out.2.2 hAP.out.1 HO.out (by decide) (Nat.le_refl _) (by omega) (Nat.le_refl _) hown hg (by simpa using hat)
                      obtain ⟨g', c', rfl⟩ := ownsRow_succ hown
                      have hc1 := hCC.1.cell
                      have hf1 := hCC.1.frozen
                      have HCC := Lib.hid hCC
                      clear hCC hown hg hat
                      refine hK _ _ ?_
                      clear hK K
                      refine wpAnyIn_ready (rs := [8]) (by kernel_rfl) (by simp) ?_
                      refine AllReadyIn.cons rfl (fun K hK => ?_) ?_
                      · go_simp
                        refine hK _ _ ?_
                        clear hK K
                        refine wpAnyIn_done (by kernel_rfl) ?_ _
                        have HZ := HCC
                        gi_wp2
                        exact ⟨⟨HZ.out.2.2.1.size, HZ.out.2.2.1.same⟩, ⟨⟨HZ.out.2.2.2.1.1.os, HZ.out.2.2.2.1.1.tape, HZ.out.2.2.2.1.1.output, HZ.out.2.2.2.1.1.size, HZ.out.2.2.2.1.1.block⟩, HZ.out.2.2.2.1.2⟩, HZ.out.2.2.2.2, by show Coll _ _ _ _ _ (facV s (ksOf l) (pre ++ [x])) B w2 _; rw [E.out]; exact HZ.out.2.1⟩
                      exact AllReadyIn.nil
                    exact AllReadyIn.nil
                  exact AllReadyIn.nil
                exact AllReadyIn.nil
              exact AllReadyIn.nil
            refine AllReadyIn.cons rfl (fun K hK => ?_) ?_
            · go_simp
              refine hK _ _ ?_
              clear hK K
              refine wpAnyIn_ready (rs := [1]) (by kernel_rfl) (by simp) ?_
              refine AllReadyIn.cons rfl (fun K hK => ?_) ?_
              · go_simp
                refine hK _ _ ?_
                clear hK K
                refine wpAnyIn_ready (rs := [5]) (by kernel_rfl) (by simp) ?_
                refine AllReadyIn.cons rfl (fun K hK => ?_) ?_
                · go_simp
                  refine hK _ _ ?_
                  clear hK K
                  refine wpAnyIn_ready (rs := [6]) (by kernel_rfl) (by simp) ?_
                  refine AllReadyIn.cons rfl (fun K hK => ?_) ?_
                  · go_simp
                    refine hK _ _ ?_
                    clear hK K
                    refine wpAnyIn_ready (rs := [7]) (by kernel_rfl) (by simp) ?_
                    refine AllReadyIn.cons rfl (fun K hK => ?_) ?_
                    · refine step_append_at_in _ rfl (.tmp 41) (.tmp 47) 37 rfl w2.heap.size 9 i0 (.string ⟨#[]⟩) 1 16 Tryz.underlying37 hi hz0 hz1 hz2 rfl (by decide) v _ _ (by simp [Act.eval]) (hAP.out.1.alloc _) ⟨W.heap.size, 0, none⟩ 1 1 [.string (s.extract x.val (q + 1))] (by simp [Act.eval]) rfl (cell_one_new _ _ _) (by simp [Value.oneCell']) (by unfold maxLen; omega) (by omega) (by simp; omega) ?_
                      intro v' w3 hown hg hat
                      have hCC := hAP.out.2.1.appended (n0 := ((w2.alloc (.cells #[.slice none 0 0] 37)).alloc (.cells #[.slice (some ⟨w.heap.size + 1 + 1 + 1, 0, none⟩) s.size s.size, .slice (some ⟨M, 0, none⟩) s.size s.size] 94)).heap.size) hAP.out.2.2 hAP.out.1 HO.out (by decide) (Nat.le_refl _) (by omega) (Nat.le_refl _) hown hg (by simpa using hat)
                      obtain ⟨g', c', rfl⟩ := ownsRow_succ hown
                      have hc1 := hCC.1.cell
                      have hf1 := hCC.1.frozen
                      have HCC := Lib.hid hCC
                      clear hCC hown hg hat
                      refine hK _ _ ?_
                      clear hK K
                      refine wpAnyIn_ready (rs := [8]) (by kernel_rfl) (by simp) ?_
                      refine AllReadyIn.cons rfl (fun K hK => ?_) ?_
                      · go_simp
                        refine hK _ _ ?_
                        clear hK K
                        refine wpAnyIn_done (by kernel_rfl) ?_ _
                        have HZ := HCC
                        gi_wp2
                        exact ⟨⟨HZ.out.2.2.1.size, HZ.out.2.2.1.same⟩, ⟨⟨HZ.out.2.2.2.1.1.os, HZ.out.2.2.2.1.1.tape, HZ.out.2.2.2.1.1.output, HZ.out.2.2.2.1.1.size, HZ.out.2.2.2.1.1.block⟩, HZ.out.2.2.2.1.2⟩, HZ.out.2.2.2.2, by show Coll _ _ _ _ _ (facV s (ksOf l) (pre ++ [x])) B w2 _; rw [E.out]; exact HZ.out.2.1⟩
                      exact AllReadyIn.nil
                    exact AllReadyIn.nil
                  exact AllReadyIn.nil
                exact AllReadyIn.nil
              exact AllReadyIn.nil
            exact AllReadyIn.nil
          refine AllReadyIn.cons rfl (fun K hK => ?_) ?_
          · go_simp
            refine hK _ _ ?_
            clear hK K
            refine wpAnyIn_ready (rs := [0, 4]) (by kernel_rfl) (by simp) ?_
            refine AllReadyIn.cons rfl (fun K hK => ?_) ?_
            · go_simp
              refine hK _ _ ?_
              clear hK K
              refine wpAnyIn_ready (rs := [4]) (by kernel_rfl) (by simp) ?_
              refine AllReadyIn.cons rfl (fun K hK => ?_) ?_
              · go_simp
                refine hK _ _ ?_
                clear hK K
                refine wpAnyIn_ready (rs := [5]) (by kernel_rfl) (by simp) ?_
                refine AllReadyIn.cons rfl (fun K hK => ?_) ?_
                · go_simp
                  refine hK _ _ ?_
                  clear hK K
                  refine wpAnyIn_ready (rs := [6]) (by kernel_rfl) (by simp) ?_
                  refine AllReadyIn.cons rfl (fun K hK => ?_) ?_
                  · go_simp
                    refine hK _ _ ?_
                    clear hK K
                    refine wpAnyIn_ready (rs := [7]) (by kernel_rfl) (by simp) ?_
                    refine AllReadyIn.cons rfl (fun K hK => ?_) ?_
                    · refine step_append_at_in _ rfl (.tmp 41) (.tmp 47) 37 rfl w2.heap.size 9 i0 (.string ⟨#[]⟩) 1 16 Tryz.underlying37 hi hz0 hz1 hz2 rfl (by decide) v _ _ (by simp [Act.eval]) (hAP.out.1.alloc _) ⟨W.heap.size, 0, none⟩ 1 1 [.string (s.extract x.val (q + 1))] (by simp [Act.eval]) rfl (cell_one_new _ _ _) (by simp [Value.oneCell']) (by unfold maxLen; omega) (by omega) (by simp; omega) ?_
                      intro v' w3 hown hg hat
                      have hCC := hAP.out.2.1.appended (n0 := ((w2.alloc (.cells #[.slice none 0 0] 37)).alloc (.cells #[.slice (some ⟨w.heap.size + 1 + 1 + 1, 0, none⟩) s.size s.size, .slice (some ⟨M, 0, none⟩) s.size s.size] 94)).heap.size) hAP.out.2.2 hAP.out.1 HO.out (by decide) (Nat.le_refl _) (by omega) (Nat.le_refl _) hown hg (by simpa using hat)
                      obtain ⟨g', c', rfl⟩ := ownsRow_succ hown
                      have hc1 := hCC.1.cell
                      have hf1 := hCC.1.frozen
                      have HCC := Lib.hid hCC
                      clear hCC hown hg hat
                      refine hK _ _ ?_
                      clear hK K
                      refine wpAnyIn_ready (rs := [8]) (by kernel_rfl) (by simp) ?_
                      refine AllReadyIn.cons rfl (fun K hK => ?_) ?_
                      · go_simp
                        refine hK _ _ ?_
                        clear hK K
                        refine wpAnyIn_done (by kernel_rfl) ?_ _
                        have HZ := HCC
                        gi_wp2
                        exact ⟨⟨HZ.out.2.2.1.size, HZ.out.2.2.1.same⟩, ⟨⟨HZ.out.2.2.2.1.1.os, HZ.out.2.2.2.1.1.tape, HZ.out.2.2.2.1.1.output, HZ.out.2.2.2.1.1.size, HZ.out.2.2.2.1.1.block⟩, HZ.out.2.2.2.1.2⟩, HZ.out.2.2.2.2, by show Coll _ _ _ _ _ (facV s (ksOf l) (pre ++ [x])) B w2 _; rw [E.out]; exact HZ.out.2.1⟩
                      exact AllReadyIn.nil
                    exact AllReadyIn.nil
                  exact AllReadyIn.nil
                exact AllReadyIn.nil
              exact AllReadyIn.nil
            refine AllReadyIn.cons rfl (fun K hK => ?_) ?_
            · go_simp
              refine hK _ _ ?_
              clear hK K
              refine wpAnyIn_ready (rs := [0, 5]) (by kernel_rfl) (by simp) ?_
              refine AllReadyIn.cons rfl (fun K hK => ?_) ?_
              · go_simp
                refine hK _ _ ?_
                clear hK K
                refine wpAnyIn_ready (rs := [5]) (by kernel_rfl) (by simp) ?_
                refine AllReadyIn.cons rfl (fun K hK => ?_) ?_
                · go_simp
                  refine hK _ _ ?_
                  clear hK K
                  refine wpAnyIn_ready (rs := [6]) (by kernel_rfl) (by simp) ?_
                  refine AllReadyIn.cons rfl (fun K hK => ?_) ?_
                  · go_simp
                    refine hK _ _ ?_
                    clear hK K
                    refine wpAnyIn_ready (rs := [7]) (by kernel_rfl) (by simp) ?_
                    refine AllReadyIn.cons rfl (fun K hK => ?_) ?_
                    · refine step_append_at_in _ rfl (.tmp 41) (.tmp 47) 37 rfl w2.heap.size 9 i0 (.string ⟨#[]⟩) 1 16 Tryz.underlying37 hi hz0 hz1 hz2 rfl (by decide) v _ _ (by simp [Act.eval]) (hAP.out.1.alloc _) ⟨W.heap.size, 0, none⟩ 1 1 [.string (s.extract x.val (q + 1))] (by simp [Act.eval]) rfl (cell_one_new _ _ _) (by simp [Value.oneCell']) (by unfold maxLen; omega) (by omega) (by simp; omega) ?_
                      intro v' w3 hown hg hat
                      have hCC := hAP.out.2.1.appended (n0 := ((w2.alloc (.cells #[.slice none 0 0] 37)).alloc (.cells #[.slice (some ⟨w.heap.size + 1 + 1 + 1, 0, none⟩) s.size s.size, .slice (some ⟨M, 0, none⟩) s.size s.size] 94)).heap.size) hAP.out.2.2 hAP.out.1 HO.out (by decide) (Nat.le_refl _) (by omega) (Nat.le_refl _) hown hg (by simpa using hat)
                      obtain ⟨g', c', rfl⟩ := ownsRow_succ hown
                      have hc1 := hCC.1.cell
                      have hf1 := hCC.1.frozen
                      have HCC := Lib.hid hCC
                      clear hCC hown hg hat
                      refine hK _ _ ?_
                      clear hK K
                      refine wpAnyIn_ready (rs := [8]) (by kernel_rfl) (by simp) ?_
                      refine AllReadyIn.cons rfl (fun K hK => ?_) ?_
                      · go_simp
                        refine hK _ _ ?_
                        clear hK K
                        refine wpAnyIn_done (by kernel_rfl) ?_ _
                        have HZ := HCC
                        gi_wp2
                        exact ⟨⟨HZ.out.2.2.1.size, HZ.out.2.2.1.same⟩, ⟨⟨HZ.out.2.2.2.1.1.os, HZ.out.2.2.2.1.1.tape, HZ.out.2.2.2.1.1.output, HZ.out.2.2.2.1.1.size, HZ.out.2.2.2.1.1.block⟩, HZ.out.2.2.2.1.2⟩, HZ.out.2.2.2.2, by show Coll _ _ _ _ _ (facV s (ksOf l) (pre ++ [x])) B w2 _; rw [E.out]; exact HZ.out.2.1⟩
                      exact AllReadyIn.nil
                    exact AllReadyIn.nil
                  exact AllReadyIn.nil
                exact AllReadyIn.nil
              refine AllReadyIn.cons rfl (fun K hK => ?_) ?_
              · go_simp
                refine hK _ _ ?_
                clear hK K
                refine wpAnyIn_ready (rs := [0, 6]) (by kernel_rfl) (by simp) ?_
                refine AllReadyIn.cons rfl (fun K hK => ?_) ?_
                · go_simp
                  refine hK _ _ ?_
                  clear hK K
                  refine wpAnyIn_ready (rs := [6]) (by kernel_rfl) (by simp) ?_
                  refine AllReadyIn.cons rfl (fun K hK => ?_) ?_
                  · go_simp
                    refine hK _ _ ?_
                    clear hK K
                    refine wpAnyIn_ready (rs := [7]) (by kernel_rfl) (by simp) ?_
                    refine AllReadyIn.cons rfl (fun K hK => ?_) ?_
                    · refine step_append_at_in _ rfl (.tmp 41) (.tmp 47) 37 rfl w2.heap.size 9 i0 (.string ⟨#[]⟩) 1 16 Tryz.underlying37 hi hz0 hz1 hz2 rfl (by decide) v _ _ (by simp [Act.eval]) (hAP.out.1.alloc _) ⟨W.heap.size, 0, none⟩ 1 1 [.string (s.extract x.val (q + 1))] (by simp [Act.eval]) rfl (cell_one_new _ _ _) (by simp [Value.oneCell']) (by unfold maxLen; omega) (by omega) (by simp; omega) ?_
                      intro v' w3 hown hg hat
                      have hCC := hAP.out.2.1.appended (n0 := ((w2.alloc (.cells #[.slice none 0 0] 37)).alloc (.cells #[.slice (some ⟨w.heap.size + 1 + 1 + 1, 0, none⟩) s.size s.size, .slice (some ⟨M, 0, none⟩) s.size s.size] 94)).heap.size) hAP.out.2.2 hAP.out.1 HO.out (by decide) (Nat.le_refl _) (by omega) (Nat.le_refl _) hown hg (by simpa using hat)
                      obtain ⟨g', c', rfl⟩ := ownsRow_succ hown
                      have hc1 := hCC.1.cell
                      have hf1 := hCC.1.frozen
                      have HCC := Lib.hid hCC
                      clear hCC hown hg hat
                      refine hK _ _ ?_
                      clear hK K
                      refine wpAnyIn_ready (rs := [8]) (by kernel_rfl) (by simp) ?_
                      refine AllReadyIn.cons rfl (fun K hK => ?_) ?_
                      · go_simp
                        refine hK _ _ ?_
                        clear hK K
                        refine wpAnyIn_done (by kernel_rfl) ?_ _
                        have HZ := HCC
                        gi_wp2
                        exact ⟨⟨HZ.out.2.2.1.size, HZ.out.2.2.1.same⟩, ⟨⟨HZ.out.2.2.2.1.1.os, HZ.out.2.2.2.1.1.tape, HZ.out.2.2.2.1.1.output, HZ.out.2.2.2.1.1.size, HZ.out.2.2.2.1.1.block⟩, HZ.out.2.2.2.1.2⟩, HZ.out.2.2.2.2, by show Coll _ _ _ _ _ (facV s (ksOf l) (pre ++ [x])) B w2 _; rw [E.out]; exact HZ.out.2.1⟩
                      exact AllReadyIn.nil
                    exact AllReadyIn.nil
                  exact AllReadyIn.nil
                refine AllReadyIn.cons rfl (fun K hK => ?_) ?_
                · go_simp
                  refine hK _ _ ?_
                  clear hK K
                  refine wpAnyIn_ready (rs := [0]) (by kernel_rfl) (by simp) ?_
                  refine AllReadyIn.cons rfl (fun K hK => ?_) ?_
                  · go_simp
                    refine hK _ _ ?_
                    clear hK K
                    refine wpAnyIn_ready (rs := [7]) (by kernel_rfl) (by simp) ?_
                    refine AllReadyIn.cons rfl (fun K hK => ?_) ?_
                    · refine step_append_at_in _ rfl (.tmp 41) (.tmp 47) 37 rfl w2.heap.size 9 i0 (.string ⟨#[]⟩) 1 16 Tryz.underlying37 hi hz0 hz1 hz2 rfl (by decide) v _ _ (by simp [Act.eval]) (hAP.out.1.alloc _) ⟨W.heap.size, 0, none⟩ 1 1 [.string (s.extract x.val (q + 1))] (by simp [Act.eval]) rfl (cell_one_new _ _ _) (by simp [Value.oneCell']) (by unfold maxLen; omega) (by omega) (by simp; omega) ?_
                      intro v' w3 hown hg hat
                      have hCC := hAP.out.2.1.appended (n0 := ((w2.alloc (.cells #[.slice none 0 0] 37)).alloc (.cells #[.slice (some ⟨w.heap.size + 1 + 1 + 1, 0, none⟩) s.size s.size, .slice (some ⟨M, 0, none⟩) s.size s.size] 94)).heap.size) hAP.out.2.2 hAP.out.1 HO.out (by decide) (Nat.le_refl _) (by omega) (Nat.le_refl _) hown hg (by simpa using hat)
                      obtain ⟨g', c', rfl⟩ := ownsRow_succ hown
                      have hc1 := hCC.1.cell
                      have hf1 := hCC.1.frozen
                      have HCC := Lib.hid hCC
                      clear hCC hown hg hat
                      refine hK _ _ ?_
                      clear hK K
                      refine wpAnyIn_ready (rs := [8]) (by kernel_rfl) (by simp) ?_
                      refine AllReadyIn.cons rfl (fun K hK => ?_) ?_
                      · go_simp
                        refine hK _ _ ?_
                        clear hK K
                        refine wpAnyIn_done (by kernel_rfl) ?_ _
                        have HZ := HCC
                        gi_wp2
                        exact ⟨⟨HZ.out.2.2.1.size, HZ.out.2.2.1.same⟩, ⟨⟨HZ.out.2.2.2.1.1.os, HZ.out.2.2.2.1.1.tape, HZ.out.2.2.2.1.1.output, HZ.out.2.2.2.1.1.size, HZ.out.2.2.2.1.1.block⟩, HZ.out.2.2.2.1.2⟩, HZ.out.2.2.2.2, by show Coll _ _ _ _ _ (facV s (ksOf l) (pre ++ [x])) B w2 _; rw [E.out]; exact HZ.out.2.1⟩
                      exact AllReadyIn.nil
                    exact AllReadyIn.nil
                  exact AllReadyIn.nil
                exact AllReadyIn.nil
              exact AllReadyIn.nil
            exact AllReadyIn.nil
          refine AllReadyIn.cons rfl (fun K hK => ?_) ?_
          · go_simp
            refine hK _ _ ?_
            clear hK K
            refine wpAnyIn_ready (rs := [0, 1]) (by kernel_rfl) (by simp) ?_
            refine AllReadyIn.cons rfl (fun K hK => ?_) ?_
            · go_simp
              refine hK _ _ ?_
              clear hK K
              refine wpAnyIn_ready (rs := [1]) (by kernel_rfl) (by simp) ?_
              refine AllReadyIn.cons rfl (fun K hK => ?_) ?_
              · go_simp
                refine hK _ _ ?_
                clear hK K
                refine wpAnyIn_ready (rs := [5]) (by kernel_rfl) (by simp) ?_
                refine AllReadyIn.cons rfl (fun K hK => ?_) ?_
                · go_simp
                  refine hK _ _ ?_
                  clear hK K
                  refine wpAnyIn_ready (rs := [6]) (by kernel_rfl) (by simp) ?_
                  refine AllReadyIn.cons rfl (fun K hK => ?_) ?_
                  · go_simp
                    refine hK _ _ ?_
                    clear hK K
                    refine wpAnyIn_ready (rs := [7]) (by kernel_rfl) (by simp) ?_
                    refine AllReadyIn.cons rfl (fun K hK => ?_) ?_
                    · refine step_append_at_in _ rfl (.tmp 41) (.tmp 47) 37 rfl w2.heap.size 9 i0 (.string ⟨#[]⟩) 1 16 Tryz.underlying37 hi hz0 hz1 hz2 rfl (by decide) v _ _ (by simp [Act.eval]) (hAP.out.1.alloc _) ⟨W.heap.size, 0, none⟩ 1 1 [.string (s.extract x.val (q + 1))] (by simp [Act.eval]) rfl (cell_one_new _ _ _) (by simp [Value.oneCell']) (by unfold maxLen; omega) (by omega) (by simp; omega) ?_
                      intro v' w3 hown hg hat
                      have hCC := hAP.out.2.1.appended (n0 := ((w2.alloc (.cells #[.slice none 0 0] 37)).alloc (.cells #[.slice (some ⟨w.heap.size + 1 + 1 + 1, 0, none⟩) s.size s.size, .slice (some ⟨M, 0, none⟩) s.size s.size] 94)).heap.size) hAP.out.2.2 hAP.out.1 HO.out (by decide) (Nat.le_refl _) (by omega) (Nat.le_refl _) hown hg (by simpa using hat)
                      obtain ⟨g', c', rfl⟩ := ownsRow_succ hown
                      have hc1 := hCC.1.cell
                      have hf1 := hCC.1.frozen
                      have HCC := Lib.hid hCC
                      clear hCC hown hg hat
                      refine hK _ _ ?_
                      clear hK K
                      refine wpAnyIn_ready (rs := [8]) (by kernel_rfl) (by simp) ?_
                      refine AllReadyIn.cons rfl (fun K hK => ?_) ?_
                      · go_simp
                        refine hK _ _ ?_
                        clear hK K
                        refine wpAnyIn_done (by kernel_rfl) ?_ _
                        have HZ := HCC
                        gi_wp2
                        exact ⟨⟨HZ.out.2.2.1.size, HZ.out.2.2.1.same⟩, ⟨⟨HZ.out.2.2.2.1.1.os, HZ.out.2.2.2.1.1.tape, HZ.out.2.2.2.1.1.output, HZ.out.2.2.2.1.1.size, HZ.out.2.2.2.1.1.block⟩, HZ.out.2.2.2.1.2⟩, HZ.out.2.2.2.2, by show Coll _ _ _ _ _ (facV s (ksOf l) (pre ++ [x])) B w2 _; rw [E.out]; exact HZ.out.2.1⟩
                      exact AllReadyIn.nil
                    exact AllReadyIn.nil
                  exact AllReadyIn.nil
                exact AllReadyIn.nil
              exact AllReadyIn.nil
            refine AllReadyIn.cons rfl (fun K hK => ?_) ?_
            · go_simp
              refine hK _ _ ?_
              clear hK K
              refine wpAnyIn_ready (rs := [0, 5]) (by kernel_rfl) (by simp) ?_
              refine AllReadyIn.cons rfl (fun K hK => ?_) ?_
              · go_simp
                refine hK _ _ ?_
                clear hK K
                refine wpAnyIn_ready (rs := [5]) (by kernel_rfl) (by simp) ?_
                refine AllReadyIn.cons rfl (fun K hK => ?_) ?_
                · go_simp
                  refine hK _ _ ?_
                  clear hK K
                  refine wpAnyIn_ready (rs := [6]) (by kernel_rfl) (by simp) ?_
                  refine AllReadyIn.cons rfl (fun K hK => ?_) ?_
                  · go_simp
                    refine hK _ _ ?_
                    clear hK K
                    refine wpAnyIn_ready (rs := [7]) (by kernel_rfl) (by simp) ?_
                    refine AllReadyIn.cons rfl (fun K hK => ?_) ?_
                    · refine step_append_at_in _ rfl (.tmp 41) (.tmp 47) 37 rfl w2.heap.size 9 i0 (.string ⟨#[]⟩) 1 16 Tryz.underlying37 hi hz0 hz1 hz2 rfl (by decide) v _ _ (by simp [Act.eval]) (hAP.out.1.alloc _) ⟨W.heap.size, 0, none⟩ 1 1 [.string (s.extract x.val (q + 1))] (by simp [Act.eval]) rfl (cell_one_new _ _ _) (by simp [Value.oneCell']) (by unfold maxLen; omega) (by omega) (by simp; omega) ?_
                      intro v' w3 hown hg hat
                      have hCC := hAP.out.2.1.appended (n0 := ((w2.alloc (.cells #[.slice none 0 0] 37)).alloc (.cells #[.slice (some ⟨w.heap.size + 1 + 1 + 1, 0, none⟩) s.size s.size, .slice (some ⟨M, 0, none⟩) s.size s.size] 94)).heap.size) hAP.out.2.2 hAP.out.1 HO.out (by decide) (Nat.le_refl _) (by omega) (Nat.le_refl _) hown hg (by simpa using hat)
                      obtain ⟨g', c', rfl⟩ := ownsRow_succ hown
                      have hc1 := hCC.1.cell
                      have hf1 := hCC.1.frozen
                      have HCC := Lib.hid hCC
                      clear hCC hown hg hat
                      refine hK _ _ ?_
                      clear hK K
                      refine wpAnyIn_ready (rs := [8]) (by kernel_rfl) (by simp) ?_
                      refine AllReadyIn.cons rfl (fun K hK => ?_) ?_
                      · go_simp
                        refine hK _ _ ?_
                        clear hK K
                        refine wpAnyIn_done (by kernel_rfl) ?_ _
                        have HZ := HCC
                        gi_wp2
                        exact ⟨⟨HZ.out.2.2.1.size, HZ.out.2.2.1.same⟩, ⟨⟨HZ.out.2.2.2.1.1.os, HZ.out.2.2.2.1.1.tape, HZ.out.2.2.2.1.1.output, HZ.out.2.2.2.1.1.size, HZ.out.2.2.2.1.1.block⟩, HZ.out.2.2.2.1.2⟩, HZ.out.2.2.2.2, by show Coll _ _ _ _ _ (facV s (ksOf l) (pre ++ [x])) B w2 _; rw [E.out]; exact HZ.out.2.1⟩
                      exact AllReadyIn.nil
                    exact AllReadyIn.nil
                  exact AllReadyIn.nil
                exact AllReadyIn.nil
              refine AllReadyIn.cons rfl (fun K hK => ?_) ?_
              · go_simp
                refine hK _ _ ?_
                clear hK K
                refine wpAnyIn_ready (rs := [0, 6]) (by kernel_rfl) (by simp) ?_
                refine AllReadyIn.cons rfl (fun K hK => ?_) ?_
                · go_simp
                  refine hK _ _ ?_
                  clear hK K
                  refine wpAnyIn_ready (rs := [6]) (by kernel_rfl) (by simp) ?_
                  refine AllReadyIn.cons rfl (fun K hK => ?_) ?_
                  · go_simp
                    refine hK _ _ ?_
                    clear hK K
                    refine wpAnyIn_ready (rs := [7]) (by kernel_rfl) (by simp) ?_
                    refine AllReadyIn.cons rfl (fun K hK => ?_) ?_
                    · refine step_append_at_in _ rfl (.tmp 41) (.tmp 47) 37 rfl w2.heap.size 9 i0 (.string ⟨#[]⟩) 1 16 Tryz.underlying37 hi hz0 hz1 hz2 rfl (by decide) v _ _ (by simp [Act.eval]) (hAP.out.1.alloc _) ⟨W.heap.size, 0, none⟩ 1 1 [.string (s.extract x.val (q + 1))] (by simp [Act.eval]) rfl (cell_one_new _ _ _) (by simp [Value.oneCell']) (by unfold maxLen; omega) (by omega) (by simp; omega) ?_
                      intro v' w3 hown hg hat
                      have hCC := hAP.out.2.1.appended (n0 := ((w2.alloc (.cells #[.slice none 0 0] 37)).alloc (.cells #[.slice (some ⟨w.heap.size + 1 + 1 + 1, 0, none⟩) s.size s.size, .slice (some ⟨M, 0, none⟩) s.size s.size] 94)).heap.size) hAP.out.2.2 hAP.out.1 HO.out (by decide) (Nat.le_refl _) (by omega) (Nat.le_refl _) hown hg (by simpa using hat)
                      obtain ⟨g', c', rfl⟩ := ownsRow_succ hown
                      have hc1 := hCC.1.cell
                      have hf1 := hCC.1.frozen
                      have HCC := Lib.hid hCC
                      clear hCC hown hg hat
                      refine hK _ _ ?_
                      clear hK K
                      refine wpAnyIn_ready (rs := [8]) (by kernel_rfl) (by simp) ?_
                      refine AllReadyIn.cons rfl (fun K hK => ?_) ?_
                      · go_simp
                        refine hK _ _ ?_
                        clear hK K
                        refine wpAnyIn_done (by kernel_rfl) ?_ _
                        have HZ := HCC
                        gi_wp2
                        exact ⟨⟨HZ.out.2.2.1.size, HZ.out.2.2.1.same⟩, ⟨⟨HZ.out.2.2.2.1.1.os, HZ.out.2.2.2.1.1.tape, HZ.out.2.2.2.1.1.output, HZ.out.2.2.2.1.1.size, HZ.out.2.2.2.1.1.block⟩, HZ.out.2.2.2.1.2⟩, HZ.out.2.2.2.2, by show Coll _ _ _ _ _ (facV s (ksOf l) (pre ++ [x])) B w2 _; rw [E.out]; exact HZ.out.2.1⟩
                      exact AllReadyIn.nil
                    exact AllReadyIn.nil
                  exact AllReadyIn.nil
                refine AllReadyIn.cons rfl (fun K hK => ?_) ?_
                · go_simp
                  refine hK _ _ ?_
                  clear hK K
                  refine wpAnyIn_ready (rs := [0]) (by kernel_rfl) (by simp) ?_
                  refine AllReadyIn.cons rfl (fun K hK => ?_) ?_
                  · go_simp
                    refine hK _ _ ?_
                    clear hK K
                    refine wpAnyIn_ready (rs := [7]) (by kernel_rfl) (by simp) ?_
                    refine AllReadyIn.cons rfl (fun K hK => ?_) ?_
                    · refine step_append_at_in _ rfl (.tmp 41) (.tmp 47) 37 rfl w2.heap.size 9 i0 (.string ⟨#[]⟩) 1 16 Tryz.underlying37 hi hz0 hz1 hz2 rfl (by decide) v _ _ (by simp [Act.eval]) (hAP.out.1.alloc _) ⟨W.heap.size, 0, none⟩ 1 1 [.string (s.extract x.val (q + 1))] (by simp [Act.eval]) rfl (cell_one_new _ _ _) (by simp [Value.oneCell']) (by unfold maxLen; omega) (by omega) (by simp; omega) ?_
                      intro v' w3 hown hg hat
                      have hCC := hAP.out.2.1.appended (n0 := ((w2.alloc (.cells #[.slice none 0 0] 37)).alloc (.cells #[.slice (some ⟨w.heap.size + 1 + 1 + 1, 0, none⟩) s.size s.size, .slice (some ⟨M, 0, none⟩) s.size s.size] 94)).heap.size) hAP.out.2.2 hAP.out.1 HO.out (by decide) (Nat.le_refl _) (by omega) (Nat.le_refl _) hown hg (by simpa using hat)
                      obtain ⟨g', c', rfl⟩ := ownsRow_succ hown
                      have hc1 := hCC.1.cell
                      have hf1 := hCC.1.frozen
                      have HCC := Lib.hid hCC
                      clear hCC hown hg hat
                      refine hK _ _ ?_
                      clear hK K
                      refine wpAnyIn_ready (rs := [8]) (by kernel_rfl) (by simp) ?_
                      refine AllReadyIn.cons rfl (fun K hK => ?_) ?_
                      · go_simp
                        refine hK _ _ ?_
                        clear hK K
                        refine wpAnyIn_done (by kernel_rfl) ?_ _
                        have HZ := HCC
                        gi_wp2
                        exact ⟨⟨HZ.out.2.2.1.size, HZ.out.2.2.1.same⟩, ⟨⟨HZ.out.2.2.2.1.1.os, HZ.out.2.2.2.1.1.tape, HZ.out.2.2.2.1.1.output, HZ.out.2.2.2.1.1.size, HZ.out.2.2.2.1.1.block⟩, HZ.out.2.2.2.1.2⟩, HZ.out.2.2.2.2, by show Coll _ _ _ _ _ (facV s (ksOf l) (pre ++ [x])) B w2 _; rw [E.out]; exact HZ.out.2.1⟩
                      exact AllReadyIn.nil
                    exact AllReadyIn.nil
                  exact AllReadyIn.nil
                exact AllReadyIn.nil
              exact AllReadyIn.nil
            exact AllReadyIn.nil
          exact AllReadyIn.nil
        refine AllReadyIn.cons rfl (fun K hK => ?_) ?_
        · go_simp
          refine hK _ _ ?_
          clear hK K
          refine wpAnyIn_ready (rs := [0, 1, 2]) (by kernel_rfl) (by simp) ?_
          refine AllReadyIn.cons rfl (fun K hK => ?_) ?_
          · go_simp
            refine hK _ _ ?_
            clear hK K
            refine wpAnyIn_ready (rs := [1, 2]) (by kernel_rfl) (by simp) ?_
            refine AllReadyIn.cons rfl (fun K hK => ?_) ?_
            · go_simp
              refine hK _ _ ?_
              clear hK K
              refine wpAnyIn_ready (rs := [2]) (by kernel_rfl) (by simp) ?_
              refine AllReadyIn.cons rfl (fun K hK => ?_) ?_
              · go_simp
                refine hK _ _ ?_
                clear hK K
                refine wpAnyIn_ready (rs := [5]) (by kernel_rfl) (by simp) ?_
                refine AllReadyIn.cons rfl (fun K hK => ?_) ?_
                · go_simp
                  refine hK _ _ ?_
                  clear hK K
                  refine wpAnyIn_ready (rs := [6]) (by kernel_rfl) (by simp) ?_
                  refine AllReadyIn.cons rfl (fun K hK => ?_) ?_
                  · go_simp
                    refine hK _ _ ?_
                    clear hK K
                    refine wpAnyIn_ready (rs := [7]) (by kernel_rfl) (by simp) ?_
                    refine AllReadyIn.cons rfl (fun K hK => ?_) ?_
                    · refine step_append_at_in _ rfl (.tmp 41) (.tmp 47) 37 rfl w2.heap.size 9 i0 (.string ⟨#[]⟩) 1 16 Tryz.underlying37 hi hz0 hz1 hz2 rfl (by decide) v _ _ (by simp [Act.eval]) (hAP.out.1.alloc _) ⟨W.heap.size, 0, none⟩ 1 1 [.string (s.extract x.val (q + 1))] (by simp [Act.eval]) rfl (cell_one_new _ _ _) (by simp [Value.oneCell']) (by unfold maxLen; omega) (by omega) (by simp; omega) ?_
                      intro v' w3 hown hg hat
                      have hCC := hAP.out.2.1.appended (n0 := ((w2.alloc (.cells #[.slice none 0 0] 37)).alloc (.cells #[.slice (some ⟨w.heap.size + 1 + 1 + 1, 0, none⟩) s.size s.size, .slice (some ⟨M, 0, none⟩) s.size s.size] 94)).heap.size) hAP.out.2.2 hAP.out.1 HO.out (by decide) (Nat.le_refl _) (by omega) (Nat.le_refl _) hown hg (by simpa using hat)
                      obtain ⟨g', c', rfl⟩ := ownsRow_succ hown
                      have hc1 := hCC.1.cell
                      have hf1 := hCC.1.frozen
                      have HCC := Lib.hid hCC
                      clear hCC hown hg hat
                      refine hK _ _ ?_
                      clear hK K
                      refine wpAnyIn_ready (rs := [8]) (by kernel_rfl) (by simp) ?_
                      refine AllReadyIn.cons rfl (fun K hK => ?_) ?_
                      · go_simp
                        refine hK _ _ ?_
                        clear hK K
                        refine wpAnyIn_done (by kernel_rfl) ?_ _
                        have HZ := HCC
                        gi_wp2
                        exact ⟨⟨HZ.out.2.2.1.size, HZ.out.2.2.1.same⟩, ⟨⟨HZ.out.2.2.2.1.1.os, HZ.out.2.2.2.1.1.tape, HZ.out.2.2.2.1.1.output, HZ.out.2.2.2.1.1.size, HZ.out.2.2.2.1.1.block⟩, HZ.out.2.2.2.1.2⟩, HZ.out.2.2.2.2, by show Coll _ _ _ _ _ (facV s (ksOf l) (pre ++ [x])) B w2 _; rw [E.out]; exact HZ.out.2.1⟩
                      exact AllReadyIn.nil
                    exact AllReadyIn.nil
                  exact AllReadyIn.nil
                exact AllReadyIn.nil
              exact AllReadyIn.nil
            refine AllReadyIn.cons rfl (fun K hK => ?_) ?_
            · go_simp
              refine hK _ _ ?_
              clear hK K
              refine wpAnyIn_ready (rs := [1]) (by kernel_rfl) (by simp) ?_
              refine AllReadyIn.cons rfl (fun K hK => ?_) ?_
              · go_simp
                refine hK _ _ ?_
                clear hK K
                refine wpAnyIn_ready (rs := [5]) (by kernel_rfl) (by simp) ?_
                refine AllReadyIn.cons rfl (fun K hK => ?_) ?_
                · go_simp
                  refine hK _ _ ?_
                  clear hK K
                  refine wpAnyIn_ready (rs := [6]) (by kernel_rfl) (by simp) ?_
                  refine AllReadyIn.cons rfl (fun K hK => ?_) ?_
                  · go_simp
                    refine hK _ _ ?_
                    clear hK K
                    refine wpAnyIn_ready (rs := [7]) (by kernel_rfl) (by simp) ?_
                    refine AllReadyIn.cons rfl (fun K hK => ?_) ?_
                    · refine step_append_at_in _ rfl (.tmp 41) (.tmp 47) 37 rfl w2.heap.size 9 i0 (.string ⟨#[]⟩) 1 16 Tryz.underlying37 hi hz0 hz1 hz2 rfl (by decide) v _ _ (by simp [Act.eval]) (hAP.out.1.alloc _) ⟨W.heap.size, 0, none⟩ 1 1 [.string (s.extract x.val (q + 1))] (by simp [Act.eval]) rfl (cell_one_new _ _ _) (by simp [Value.oneCell']) (by unfold maxLen; omega) (by omega) (by simp; omega) ?_
                      intro v' w3 hown hg hat
                      have hCC := hAP.out.2.1.appended (n0 := ((w2.alloc (.cells #[.slice none 0 0] 37)).alloc (.cells #[.slice (some ⟨w.heap.size + 1 + 1 + 1, 0, none⟩) s.size s.size, .slice (some ⟨M, 0, none⟩) s.size s.size] 94)).heap.size) hAP.out.2.2 hAP.out.1 HO.out (by decide) (Nat.le_refl _) (by omega) (Nat.le_refl _) hown hg (by simpa using hat)
                      obtain ⟨g', c', rfl⟩ := ownsRow_succ hown
                      have hc1 := hCC.1.cell
                      have hf1 := hCC.1.frozen
                      have HCC := Lib.hid hCC
                      clear hCC hown hg hat
                      refine hK _ _ ?_
                      clear hK K
                      refine wpAnyIn_ready (rs := [8]) (by kernel_rfl) (by simp) ?_
                      refine AllReadyIn.cons rfl (fun K hK => ?_) ?_
                      · go_simp
                        refine hK _ _ ?_
                        clear hK K
                        refine wpAnyIn_done (by kernel_rfl) ?_ _
                        have HZ := HCC
                        gi_wp2
                        exact ⟨⟨HZ.out.2.2.1.size, HZ.out.2.2.1.same⟩, ⟨⟨HZ.out.2.2.2.1.1.os, HZ.out.2.2.2.1.1.tape, HZ.out.2.2.2.1.1.output, HZ.out.2.2.2.1.1.size, HZ.out.2.2.2.1.1.block⟩, HZ.out.2.2.2.1.2⟩, HZ.out.2.2.2.2, by show Coll _ _ _ _ _ (facV s (ksOf l) (pre ++ [x])) B w2 _; rw [E.out]; exact HZ.out.2.1⟩
                      exact AllReadyIn.nil
                    exact AllReadyIn.nil
                  exact AllReadyIn.nil
                exact AllReadyIn.nil
              exact AllReadyIn.nil
            exact AllReadyIn.nil
          refine AllReadyIn.cons rfl (fun K hK => ?_) ?_
          · go_simp
            refine hK _ _ ?_
            clear hK K
            refine wpAnyIn_ready (rs := [0, 2]) (by kernel_rfl) (by simp) ?_
            refine AllReadyIn.cons rfl (fun K hK => ?_) ?_
            · go_simp
              refine hK _ _ ?_
              clear hK K
              refine wpAnyIn_ready (rs := [2]) (by kernel_rfl) (by simp) ?_
              refine AllReadyIn.cons rfl (fun K hK => ?_) ?_
              · go_simp
                refine hK _ _ ?_
                clear hK K
                refine wpAnyIn_ready (rs := [5]) (by kernel_rfl) (by simp) ?_
                refine AllReadyIn.cons rfl (fun K hK => ?_) ?_
                · go_simp
                  refine hK _ _ ?_
                  clear hK K
                  refine wpAnyIn_ready (rs := [6]) (by kernel_rfl) (by simp) ?_
                  refine AllReadyIn.cons rfl (fun K hK => ?_) ?_
                  · go_simp
                    refine hK _ _ ?_
                    clear hK K
                    refine wpAnyIn_ready (rs := [7]) (by kernel_rfl) (by simp) ?_
                    refine AllReadyIn.cons rfl (fun K hK => ?_) ?_
                    · refine step_append_at_in _ rfl (.tmp 41) (.tmp 47) 37 rfl w2.heap.size 9 i0 (.string ⟨#[]⟩) 1 16 Tryz.underlying37 hi hz0 hz1 hz2 rfl (by decide) v _ _ (by simp [Act.eval]) (hAP.out.1.alloc _) ⟨W.heap.size, 0, none⟩ 1 1 [.string (s.extract x.val (q + 1))] (by simp [Act.eval]) rfl (cell_one_new _ _ _) (by simp [Value.oneCell']) (by unfold maxLen; omega) (by omega) (by simp; omega) ?_
                      intro v' w3 hown hg hat
                      have hCC := hAP.out.2.1.appended (n0 := ((w2.alloc (.cells #[.slice none 0 0] 37)).alloc (.cells #[.slice (some ⟨w.heap.size + 1 + 1 + 1, 0, none⟩) s.size s.size, .slice (some ⟨M, 0, none⟩) s.size s.size] 94)).heap.size) hAP.out.2.2 hAP.out.1 HO.out (by decide) (Nat.le_refl _) (by omega) (Nat.le_refl _) hown hg (by simpa using hat)
                      obtain ⟨g', c', rfl⟩ := ownsRow_succ hown
                      have hc1 := hCC.1.cell
                      have hf1 := hCC.1.frozen
                      have HCC := Lib.hid hCC
                      clear hCC hown hg hat
                      refine hK _ _ ?_
                      clear hK K
                      refine wpAnyIn_ready (rs := [8]) (by kernel_rfl) (by simp) ?_
                      refine AllReadyIn.cons rfl (fun K hK => ?_) ?_
                      · go_simp
                        refine hK _ _ ?_
                        clear hK K
                        refine wpAnyIn_done (by kernel_rfl) ?_ _
                        have HZ := HCC
                        gi_wp2
                        exact ⟨⟨HZ.out.2.2.1.size, HZ.out.2.2.1.same⟩, ⟨⟨HZ.out.2.2.2.1.1.os, HZ.out.2.2.2.1.1.tape, HZ.out.2.2.2.1.1.output, HZ.out.2.2.2.1.1.size, HZ.out.2.2.2.1.1.block⟩, HZ.out.2.2.2.1.2⟩, HZ.out.2.2.2.2, by show Coll _ _ _ _ _ (facV s (ksOf l) (pre ++ [x])) B w2 _; rw [E.out]; exact HZ.out.2.1⟩
                      exact AllReadyIn.nil
                    exact AllReadyIn.nil
                  exact AllReadyIn.nil
                exact AllReadyIn.nil
              exact AllReadyIn.nil
            refine AllReadyIn.cons rfl (fun K hK => ?_) ?_
            · go_simp
              refine hK _ _ ?_
              clear hK K
              refine wpAnyIn_ready (rs := [0, 5]) (by kernel_rfl) (by simp) ?_
              refine AllReadyIn.cons rfl (fun K hK => ?_) ?_
              · go_simp
                refine hK _ _ ?_
                clear hK K
                refine wpAnyIn_ready (rs := [5]) (by kernel_rfl) (by simp) ?_
                refine AllReadyIn.cons rfl (fun K hK => ?_) ?_
                · go_simp
                  refine hK _ _ ?_
                  clear hK K
                  refine wpAnyIn_ready (rs := [6]) (by kernel_rfl) (by simp) ?_
                  refine AllReadyIn.cons rfl (fun K hK => ?_) ?_
                  · go_simp
                    refine hK _ _ ?_
                    clear hK K
                    refine wpAnyIn_ready (rs := [7]) (by kernel_rfl) (by simp) ?_
                    refine AllReadyIn.cons rfl (fun K hK => ?_) ?_
                    · refine step_append_at_in _ rfl (.tmp 41) (.tmp 47) 37 rfl w2.heap.size 9 i0 (.string ⟨#[]⟩) 1 16 Tryz.underlying37 hi hz0 hz1 hz2 rfl (by decide) v _ _ (by simp [Act.eval]) (hAP.out.1.alloc _) ⟨W.heap.size, 0, none⟩ 1 1 [.string (s.extract x.val (q + 1))] (by simp [Act.eval]) rfl (cell_one_new _ _ _) (by simp [Value.oneCell']) (by unfold maxLen; omega) (by omega) (by simp; omega) ?_
                      intro v' w3 hown hg hat
                      have hCC := hAP.out.2.1.appended (n0 := ((w2.alloc (.cells #[.slice none 0 0] 37)).alloc (.cells #[.slice (some ⟨w.heap.size + 1 + 1 + 1, 0, none⟩) s.size s.size, .slice (some ⟨M, 0, none⟩) s.size s.size] 94)).heap.size) hAP.out.2.2 hAP.out.1 HO.out (by decide) (Nat.le_refl _) (by omega) (Nat.le_refl _) hown hg (by simpa using hat)
                      obtain ⟨g', c', rfl⟩ := ownsRow_succ hown
                      have hc1 := hCC.1.cell
                      have hf1 := hCC.1.frozen
                      have HCC := Lib.hid hCC
                      clear hCC hown hg hat
                      refine hK _ _ ?_
                      clear hK K
                      refine wpAnyIn_ready (rs := [8]) (by kernel_rfl) (by simp) ?_
                      refine AllReadyIn.cons rfl (fun K hK => ?_) ?_
                      · go_simp
                        refine hK _ _ ?_
                        clear hK K
                        refine wpAnyIn_done (by kernel_rfl) ?_ _
                        have HZ := HCC
                        gi_wp2
                        exact ⟨⟨HZ.out.2.2.1.size, HZ.out.2.2.1.same⟩, ⟨⟨HZ.out.2.2.2.1.1.os, HZ.out.2.2.2.1.1.tape, HZ.out.2.2.2.1.1.output, HZ.out.2.2.2.1.1.size, HZ.out.2.2.2.1.1.block⟩, HZ.out.2.2.2.1.2⟩, HZ.out.2.2.2.2, by show Coll _ _ _ _ _ (facV s (ksOf l) (pre ++ [x])) B w2 _; rw [E.out]; exact HZ.out.2.1⟩
                      exact AllReadyIn.nil
                    exact AllReadyIn.nil
                  exact AllReadyIn.nil
                exact AllReadyIn.nil
              refine AllReadyIn.cons rfl (fun K hK => ?_) ?_
              · go_simp
                refine hK _ _ ?_
                clear hK K
                refine wpAnyIn_ready (rs := [0, 6]) (by kernel_rfl) (by simp) ?_
                refine AllReadyIn.cons rfl (fun K hK => ?_) ?_
                · go_simp
                  refine hK _ _ ?_
                  clear hK K
                  refine wpAnyIn_ready (rs := [6]) (by kernel_rfl) (by simp) ?_
                  refine AllReadyIn.cons rfl (fun K hK => ?_) ?_
                  · go_simp
                    refine hK _ _ ?_
                    clear hK K
                    refine wpAnyIn_ready (rs := [7]) (by kernel_rfl) (by simp) ?_
                    refine AllReadyIn.cons rfl (fun K hK => ?_) ?_
                    · refine step_append_at_in _ rfl (.tmp 41) (.tmp 47) 37 rfl w2.heap.size 9 i0 (.string ⟨#[]⟩) 1 16 Tryz.underlying37 hi hz0 hz1 hz2 rfl (by decide) v _ _ (by simp [Act.eval]) (hAP.out.1.alloc _) ⟨W.heap.size, 0, none⟩ 1 1 [.string (s.extract x.val (q + 1))] (by simp [Act.eval]) rfl (cell_one_new _ _ _) (by simp [Value.oneCell']) (by unfold maxLen; omega) (by omega) (by simp; omega) ?_
                      intro v' w3 hown hg hat
                      have hCC := hAP.out.2.1.appended (n0 := ((w2.alloc (.cells #[.slice none 0 0] 37)).alloc (.cells #[.slice (some ⟨w.heap.size + 1 + 1 + 1, 0, none⟩) s.size s.size, .slice (some ⟨M, 0, none⟩) s.size s.size] 94)).heap.size) hAP.out.2.2 hAP.out.1 HO.out (by decide) (Nat.le_refl _) (by omega) (Nat.le_refl _) hown hg (by simpa using hat)
                      obtain ⟨g', c', rfl⟩ := ownsRow_succ hown
                      have hc1 := hCC.1.cell
                      have hf1 := hCC.1.frozen
                      have HCC := Lib.hid hCC
                      clear hCC hown hg hat
                      refine hK _ _ ?_
                      clear hK K
                      refine wpAnyIn_ready (rs := [8]) (by kernel_rfl) (by simp) ?_
                      refine AllReadyIn.cons rfl (fun K hK => ?_) ?_
                      · go_simp
                        refine hK _ _ ?_
                        clear hK K
                        refine wpAnyIn_done (by kernel_rfl) ?_ _
                        have HZ := HCC
                        gi_wp2
                        exact ⟨⟨HZ.out.2.2.1.size, HZ.out.2.2.1.same⟩, ⟨⟨HZ.out.2.2.2.1.1.os, HZ.out.2.2.2.1.1.tape, HZ.out.2.2.2.1.1.output, HZ.out.2.2.2.1.1.size, HZ.out.2.2.2.1.1.block⟩, HZ.out.2.2.2.1.2⟩, HZ.out.2.2.2.2, by show Coll _ _ _ _ _ (facV s (ksOf l) (pre ++ [x])) B w2 _; rw [E.out]; exact HZ.out.2.1⟩
                      exact AllReadyIn.nil
                    exact AllReadyIn.nil
                  exact AllReadyIn.nil
                refine AllReadyIn.cons rfl (fun K hK => ?_) ?_
                · go_simp
                  refine hK _ _ ?_
                  clear hK K
                  refine wpAnyIn_ready (rs := [0]) (by kernel_rfl) (by simp) ?_
                  refine AllReadyIn.cons rfl (fun K hK => ?_) ?_
                  · go_simp
                    refine hK _ _ ?_
                    clear hK K
                    refine wpAnyIn_ready (rs := [7]) (by kernel_rfl) (by simp) ?_
                    refine AllReadyIn.cons rfl (fun K hK => ?_) ?_
                    · refine step_append_at_in _ rfl (.tmp 41) (.tmp 47) 37 rfl w2.heap.size 9 i0 (.string ⟨#[]⟩) 1 16 Tryz.underlying37 hi hz0 hz1 hz2 rfl (by decide) v _ _ (by simp [Act.eval]) (hAP.out.1.alloc _) ⟨W.heap.size, 0, none⟩ 1 1 [.string (s.extract x.val (q + 1))] (by simp [Act.eval]) rfl (cell_one_new _ _ _) (by simp [Value.oneCell']) (by unfold maxLen; omega) (by omega) (by simp; omega) ?_
                      intro v' w3 hown hg hat
                      have hCC := hAP.out.2.1.appended (n0 := ((w2.alloc (.cells #[.slice none 0 0] 37)).alloc (.cells #[.slice (some ⟨w.heap.size + 1 + 1 + 1, 0, none⟩) s.size s.size, .slice (some ⟨M, 0, none⟩) s.size s.size] 94)).heap.size) hAP.out.2.2 hAP.out.1 HO.out (by decide) (Nat.le_refl _) (by omega) (Nat.le_refl _) hown hg (by simpa using hat)
                      obtain ⟨g', c', rfl⟩ := ownsRow_succ hown
                      have hc1 := hCC.1.cell
                      have hf1 := hCC.1.frozen
                      have HCC := Lib.hid hCC
                      clear hCC hown hg hat
                      refine hK _ _ ?_
                      clear hK K
                      refine wpAnyIn_ready (rs := [8]) (by kernel_rfl) (by simp) ?_
                      refine AllReadyIn.cons rfl (fun K hK => ?_) ?_
                      · go_simp
                        refine hK _ _ ?_
                        clear hK K
                        refine wpAnyIn_done (by kernel_rfl) ?_ _
                        have HZ := HCC
                        gi_wp2
                        exact ⟨⟨HZ.out.2.2.1.size, HZ.out.2.2.1.same⟩, ⟨⟨HZ.out.2.2.2.1.1.os, HZ.out.2.2.2.1.1.tape, HZ.out.2.2.2.1.1.output, HZ.out.2.2.2.1.1.size, HZ.out.2.2.2.1.1.block⟩, HZ.out.2.2.2.1.2⟩, HZ.out.2.2.2.2, by show Coll _ _ _ _ _ (facV s (ksOf l) (pre ++ [x])) B w2 _; rw [E.out]; exact HZ.out.2.1⟩
                      exact AllReadyIn.nil
                    exact AllReadyIn.nil
                  exact AllReadyIn.nil
                exact AllReadyIn.nil
              exact AllReadyIn.nil
            exact AllReadyIn.nil
          refine AllReadyIn.cons rfl (fun K hK => ?_) ?_
          · go_simp
            refine hK _ _ ?_
            clear hK K
            refine wpAnyIn_ready (rs := [0, 1]) (by kernel_rfl) (by simp) ?_
            refine AllReadyIn.cons rfl (fun K hK => ?_) ?_
            · go_simp
              refine hK _ _ ?_
              clear hK K
              refine wpAnyIn_ready (rs := [1]) (by kernel_rfl) (by simp) ?_
              refine AllReadyIn.cons rfl (fun K hK => ?_) ?_
              · go_simp
                refine hK _ _ ?_
                clear hK K
                refine wpAnyIn_ready (rs := [5]) (by kernel_rfl) (by simp) ?_
                refine AllReadyIn.cons rfl (fun K hK => ?_) ?_
                · go_simp
                  refine hK _ _ ?_
                  clear hK K
                  refine wpAnyIn_ready (rs := [6]) (by kernel_rfl) (by simp) ?_
                  refine AllReadyIn.cons rfl (fun K hK => ?_) ?_
                  · go_simp
                    refine hK _ _ ?_
                    clear hK K
                    refine wpAnyIn_ready (rs := [7]) (by kernel_rfl) (by simp) ?_
                    refine AllReadyIn.cons rfl (fun K hK => ?_) ?_
                    · refine step_append_at_in _ rfl (.tmp 41) (.tmp 47) 37 rfl w2.heap.size 9 i0 (.string ⟨#[]⟩) 1 16 Tryz.underlying37 hi hz0 hz1 hz2 rfl (by decide) v _ _ (by simp [Act.eval]) (hAP.out.1.alloc _) ⟨W.heap.size, 0, none⟩ 1 1 [.string (s.extract x.val (q + 1))] (by simp [Act.eval]) rfl (cell_one_new _ _ _) (by simp [Value.oneCell']) (by unfold maxLen; omega) (by omega) (by simp; omega) ?_
                      intro v' w3 hown hg hat
                      have hCC := hAP.out.2.1.appended (n0 := ((w2.alloc (.cells #[.slice none 0 0] 37)).alloc (.cells #[.slice (some ⟨w.heap.size + 1 + 1 + 1, 0, none⟩) s.size s.size, .slice (some ⟨M, 0, none⟩) s.size s.size] 94)).heap.size) hAP.out.2.2 hAP.out.1 HO.out (by decide) (Nat.le_refl _) (by omega) (Nat.le_refl _) hown hg (by simpa using hat)
                      obtain ⟨g', c', rfl⟩ := ownsRow_succ hown
                      have hc1 := hCC.1.cell
                      have hf1 := hCC.1.frozen
                      have HCC := Lib.hid hCC
                      clear hCC hown hg hat
                      refine hK _ _ ?_
                      clear hK K
                      refine wpAnyIn_ready (rs := [8]) (by kernel_rfl) (by simp) ?_
                      refine AllReadyIn.cons rfl (fun K hK => ?_) ?_
                      · go_simp
                        refine hK _ _ ?_
                        clear hK K
                        refine wpAnyIn_done (by kernel_rfl) ?_ _
                        have HZ := HCC
                        gi_wp2
                        exact ⟨⟨HZ.out.2.2.1.size, HZ.out.2.2.1.same⟩, ⟨⟨HZ.out.2.2.2.1.1.os, HZ.out.2.2.2.1.1.tape, HZ.out.2.2.2.1.1.output, HZ.out.2.2.2.1.1.size, HZ.out.2.2.2.1.1.block⟩, HZ.out.2.2.2.1.2⟩, HZ.out.2.2.2.2, by show Coll _ _ _ _ _ (facV s (ksOf l) (pre ++ [x])) B w2 _; rw [E.out]; exact HZ.out.2.1⟩
                      exact AllReadyIn.nil
                    exact AllReadyIn.nil
                  exact AllReadyIn.nil
                exact AllReadyIn.nil
              exact AllReadyIn.nil
            refine AllReadyIn.cons rfl (fun K hK => ?_) ?_
            · go_simp
              refine hK _ _ ?_
              clear hK K
              refine wpAnyIn_ready (rs := [0, 5]) (by kernel_rfl) (by simp) ?_
              refine AllReadyIn.cons rfl (fun K hK => ?_) ?_
              · go_simp
                refine hK _ _ ?_
                clear hK K
                refine wpAnyIn_ready (rs := [5]) (by kernel_rfl) (by simp) ?_
                refine AllReadyIn.cons rfl (fun K hK => ?_) ?_
                · go_simp
                  refine hK _ _ ?_
                  clear hK K
                  refine wpAnyIn_ready (rs := [6]) (by kernel_rfl) (by simp) ?_
                  refine AllReadyIn.cons rfl (fun K hK => ?_) ?_
                  · go_simp
                    refine hK _ _ ?_
                    clear hK K
                    refine wpAnyIn_ready (rs := [7]) (by kernel_rfl) (by simp) ?_
                    refine AllReadyIn.cons rfl (fun K hK => ?_) ?_
                    · refine step_append_at_in _ rfl (.tmp 41) (.tmp 47) 37 rfl w2.heap.size 9 i0 (.string ⟨#[]⟩) 1 16 Tryz.underlying37 hi hz0 hz1 hz2 rfl (by decide) v _ _ (by simp [Act.eval]) (hAP.out.1.alloc _) ⟨W.heap.size, 0, none⟩ 1 1 [.string (s.extract x.val (q + 1))] (by simp [Act.eval]) rfl (cell_one_new _ _ _) (by simp [Value.oneCell']) (by unfold maxLen; omega) (by omega) (by simp; omega) ?_
                      intro v' w3 hown hg hat
                      have hCC := hAP.out.2.1.appended (n0 := ((w2.alloc (.cells #[.slice none 0 0] 37)).alloc (.cells #[.slice (some ⟨w.heap.size + 1 + 1 + 1, 0, none⟩) s.size s.size, .slice (some ⟨M, 0, none⟩) s.size s.size] 94)).heap.size) hAP.out.2.2 hAP.out.1 HO.out (by decide) (Nat.le_refl _) (by omega) (Nat.le_refl _) hown hg (by simpa using hat)
                      obtain ⟨g', c', rfl⟩ := ownsRow_succ hown
                      have hc1 := hCC.1.cell
                      have hf1 := hCC.1.frozen
                      have HCC := Lib.hid hCC
                      clear hCC hown hg hat
                      refine hK _ _ ?_
                      clear hK K
                      refine wpAnyIn_ready (rs := [8]) (by kernel_rfl) (by simp) ?_
                      refine AllReadyIn.cons rfl (fun K hK => ?_) ?_
                      · go_simp
                        refine hK _ _ ?_
                        clear hK K
                        refine wpAnyIn_done (by kernel_rfl) ?_ _
                        have HZ := HCC
                        gi_wp2
                        exact ⟨⟨HZ.out.2.2.1.size, HZ.out.2.2.1.same⟩, ⟨⟨HZ.out.2.2.2.1.1.os, HZ.out.2.2.2.1.1.tape, HZ.out.2.2.2.1.1.output, HZ.out.2.2.2.1.1.size, HZ.out.2.2.2.1.1.block⟩, HZ.out.2.2.2.1.2⟩, HZ.out.2.2.2.2, by show Coll _ _ _ _ _ (facV s (ksOf l) (pre ++ [x])) B w2 _; rw [E.out]; exact HZ.out.2.1⟩
                      exact AllReadyIn.nil
                    exact AllReadyIn.nil
                  exact AllReadyIn.nil
                exact AllReadyIn.nil
              refine AllReadyIn.cons rfl (fun K hK => ?_) ?_
              · go_simp
                refine hK _ _ ?_
                clear hK K
                refine wpAnyIn_ready (rs := [0, 6]) (by kernel_rfl) (by simp) ?_
                refine AllReadyIn.cons rfl (fun K hK => ?_) ?_
                · go_simp
                  refine hK _ _ ?_
                  clear hK K
                  refine wpAnyIn_ready (rs := [6]) (by kernel_rfl) (by simp) ?_
                  refine AllReadyIn.cons rfl (fun K hK => ?_) ?_
                  · go_simp
                    refine hK _ _ ?_
                    clear hK K
                    refine wpAnyIn_ready (rs := [7]) (by kernel_rfl) (by simp) ?_
                    refine AllReadyIn.cons rfl (fun K hK => ?_) ?_
                    · refine step_append_at_in _ rfl (.tmp 41) (.tmp 47) 37 rfl w2.heap.size 9 i0 (.string ⟨#[]⟩) 1 16 Tryz.underlying37 hi hz0 hz1 hz2 rfl (by decide) v _ _ (by simp [Act.eval]) (hAP.out.1.alloc _) ⟨W.heap.size, 0, none⟩ 1 1 [.string (s.extract x.val (q + 1))] (by simp [Act.eval]) rfl (cell_one_new _ _ _) (by simp [Value.oneCell']) (by unfold maxLen; omega) (by omega) (by simp; omega) ?_
                      intro v' w3 hown hg hat
                      have hCC := hAP.out.2.1.appended (n0 := ((w2.alloc (.cells #[.slice none 0 0] 37)).alloc (.cells #[.slice (some ⟨w.heap.size + 1 + 1 + 1, 0, none⟩) s.size s.size, .slice (some ⟨M, 0, none⟩) s.size s.size] 94)).heap.size) hAP.out.2.2 hAP.out.1 HO.out (by decide) (Nat.le_refl _) (by omega) (Nat.le_refl _) hown hg (by simpa using hat)
                      obtain ⟨g', c', rfl⟩ := ownsRow_succ hown
                      have hc1 := hCC.1.cell
                      have hf1 := hCC.1.frozen
                      have HCC := Lib.hid hCC
                      clear hCC hown hg hat
                      refine hK _ _ ?_
                      clear hK K
                      refine wpAnyIn_ready (rs := [8]) (by kernel_rfl) (by simp) ?_
                      refine AllReadyIn.cons rfl (fun K hK => ?_) ?_
                      · go_simp
                        refine hK _ _ ?_
                        clear hK K
                        refine wpAnyIn_done (by kernel_rfl) ?_ _
                        have HZ := HCC
                        gi_wp2
                        exact ⟨⟨HZ.out.2.2.1.size, HZ.out.2.2.1.same⟩, ⟨⟨HZ.out.2.2.2.1.1.os, HZ.out.2.2.2.1.1.tape, HZ.out.2.2.2.1.1.output, HZ.out.2.2.2.1.1.size, HZ.out.2.2.2.1.1.block⟩, HZ.out.2.2.2.1.2⟩, HZ.out.2.2.2.2, by show Coll _ _ _ _ _ (facV s (ksOf l) (pre ++ [x])) B w2 _; rw [E.out]; exact HZ.out.2.1⟩
                      exact AllReadyIn.nil
                    exact AllReadyIn.nil
                  exact AllReadyIn.nil
                refine AllReadyIn.cons rfl (fun K hK => ?_) ?_
                · go_simp
                  refine hK _ _ ?_
                  clear hK K
                  refine wpAnyIn_ready (rs := [0]) (by kernel_rfl) (by simp) ?_
                  refine AllReadyIn.cons rfl (fun K hK => ?_) ?_
                  · go_simp
                    refine hK _ _ ?_
                    clear hK K
                    refine wpAnyIn_ready (rs := [7]) (by kernel_rfl) (by simp) ?_
                    refine AllReadyIn.cons rfl (fun K hK => ?_) ?_
                    · refine step_append_at_in _ rfl (.tmp 41) (.tmp 47) 37 rfl w2.heap.size 9 i0 (.string ⟨#[]⟩) 1 16 Tryz.underlying37 hi hz0 hz1 hz2 rfl (by decide) v _ _ (by simp [Act.eval]) (hAP.out.1.alloc _) ⟨W.heap.size, 0, none⟩ 1 1 [.string (s.extract x.val (q + 1))] (by simp [Act.eval]) rfl (cell_one_new _ _ _) (by simp [Value.oneCell']) (by unfold maxLen; omega) (by omega) (by simp; omega) ?_
                      intro v' w3 hown hg hat
                      have hCC := hAP.out.2.1.appended (n0 := ((w2.alloc (.cells #[.slice none 0 0] 37)).alloc (.cells #[.slice (some ⟨w.heap.size + 1 + 1 + 1, 0, none⟩) s.size s.size, .slice (some ⟨M, 0, none⟩) s.size s.size] 94)).heap.size) hAP.out.2.2 hAP.out.1 HO.out (by decide) (Nat.le_refl _) (by omega) (Nat.le_refl _) hown hg (by simpa using hat)
                      obtain ⟨g', c', rfl⟩ := ownsRow_succ hown
                      have hc1 := hCC.1.cell
                      have hf1 := hCC.1.frozen
                      have HCC := Lib.hid hCC
                      clear hCC hown hg hat
                      refine hK _ _ ?_
                      clear hK K
                      refine wpAnyIn_ready (rs := [8]) (by kernel_rfl) (by simp) ?_
                      refine AllReadyIn.cons rfl (fun K hK => ?_) ?_
                      · go_simp
                        refine hK _ _ ?_
                        clear hK K
                        refine wpAnyIn_done (by kernel_rfl) ?_ _
                        have HZ := HCC
                        gi_wp2
                        exact ⟨⟨HZ.out.2.2.1.size, HZ.out.2.2.1.same⟩, ⟨⟨HZ.out.2.2.2.1.1.os, HZ.out.2.2.2.1.1.tape, HZ.out.2.2.2.1.1.output, HZ.out.2.2.2.1.1.size, HZ.out.2.2.2.1.1.block⟩, HZ.out.2.2.2.1.2⟩, HZ.out.2.2.2.2, by show Coll _ _ _ _ _ (facV s (ksOf l) (pre ++ [x])) B w2 _; rw [E.out]; exact HZ.out.2.1⟩
                      exact AllReadyIn.nil
                    exact AllReadyIn.nil
                  exact AllReadyIn.nil
                exact AllReadyIn.nil
              exact AllReadyIn.nil
            exact AllReadyIn.nil
          exact AllReadyIn.nil
        exact AllReadyIn.nil
      exact AllReadyIn.nil
      -- region 12 ends
  case done =>
    rintro D ys B W hD rfl hC hK
    obtain ⟨v, hv, hr, ho⟩ := hC.val
    have hv0 := hv.cell
    have e2 : (facV s (ksOf l) (upTo s.size s.size)).length = (facW s s.size).length := by rw [Hfl.out, strsV, List.length_map]
    rw [e2, Hfl.out] at hr
    clear e2
    have hD2 : w2.heap.size ≤ D := by simp at hD; omega
    obtain ⟨A, c, rfl⟩ : ∃ A c, v = .slice A (facW s s.size).length c := by
      rcases hr.2 with ⟨rfl, h0⟩ | ⟨g, cap, cur, rfl, _⟩
      · exact ⟨none, 0, by rw [h0]⟩
      · exact ⟨_, _, rfl⟩
    have hb02 : Below w.heap.size w w2 := hbw.trans (hb12.mono hbw.size)
    gi_wp2
    refine ⟨by simp, .inl ⟨_, _, rfl, run_takeDeferred hK, ?_⟩⟩
    refine ⟨_, results_tmp2 rfl _ _ _, A, c, rfl, row_base (ownsRow_putObj hr _ hK rfl) hb02.size, (hb02.trans (hC.below.mono hb02.size)).trans (belowK_b (w := w2) (n₀ := w.heap.size) hb02.size W D _ _ hD2 hK rfl rfl)⟩

end Go.Proofs.YtblgjedjljfmcaaGreatDoor
