/- ParentsOf and ChildrenOf, of the model and of the program. -/
import Derived.Test.YtclcebakhohfnaaColl
import Derived.Test.YtclcebakhohfnaaParents
import Derived.Test.YtclcebakhohfnaaIn
import Derived.Test.YtclcebakhohfnaaDepths
namespace Go.Proofs.Ytclcebakhohfnaa
open Go.RowKit Go.Shelf

attribute [local go_sem] Oper.semAt_some

theorem impl_ParentsOf_no (s : ByteArray) (w : World) (hs : s.size ≤ 1048576) (h : ¬ IsW s) :
    Calls Try.prog 17 #[.string s] w (NumsPost 0 [] 1 w) := by
  have H := Lib.hid h
  clear h
  go_enter Try.func17, Try.ntmps17
  go_wp2_with (go_at_call 30; refine (impl_read_no _ _ hs H.out).mono ?_; rintro e w1 ⟨rfl, hb⟩)
  go_ret2
  exact ⟨_, _, rfl, World.ownsRow_nil _ _ _ _, hb.alloc hb.size _⟩

def parV {N : Nat} (ks : List Nat) (pre : List (Fin N)) : List Value := pre.map fun x => .int .i64 (parI ks x.val)
theorem parV_all (ks : List Nat) (N : Nat) : parV ks (upTo N N) = numsV (parL ks N) := by
  rw [parV, numsV, parL, ← upTo_val N N (Nat.le_refl _), List.map_map, List.map_map]; rfl

set_option maxRecDepth 100000 in
set_option maxHeartbeats 4000000 in
theorem impl_parents {base gs M N : Nat} {l : List UInt8} (w : World) (h60 : N ≤ 60) (hlen : l.length = N) (hall : AllSym l) (hsy : w.ownsRow base 57 1 (.slice (some ⟨gs, 0, none⟩) N N) N (symsV (symL l)))
    (hps : w.ownsRow base 2 1 (.slice (some ⟨M, 0, none⟩) N N) N (numsV (prts (ksOf l)))) :
    Calls Try.prog 38 #[.agg #[.slice (some ⟨gs, 0, none⟩) N N, .slice (some ⟨M, 0, none⟩) N N]] w (RowPost2 N (parL (ksOf l) N) w) := by
  obtain ⟨i0, hi, hz0, hz1, hz2⟩ := info_parts info_i64
  have Hlen := Lib.hid hlen
  have Hall := Lib.hid hall
  clear hlen hall
  refine (callsIn_wide (n := 4)).1 ?_
  refine callsIn_of_wp_marks Try.func38 rfl trivial ?_ rfl
  simp only [Try.ntmps38, List.size_toArray, List.length_cons, List.length_nil, Nat.reduceAdd, Nat.reduceSub, Array.replicate_succ, Array.replicate_zero, List.push_toArray, List.append_toArray, List.nil_append, List.cons_append]
  gi_wp2_with (first
    | (refine ⟨trivial, ?_⟩; gi_at_call 32; refine (places_in Fence.wide _ trivial rfl _ _ _).mono ?_; rintro e w' ⟨rfl, rfl⟩))
  have hb0 : Below w.heap.size w (((w.alloc (.cells #[.slice (some ⟨gs, 0, none⟩) N N, .slice (some ⟨M, 0, none⟩) N N] 50)).alloc (.cells #[.slice none 0 0] 34)).alloc (.cells #[.slice (some ⟨gs, 0, none⟩) N N, .slice (some ⟨M, 0, none⟩) N N] 50)) := (((Below.refl _ w).alloc (Nat.le_refl _) _).alloc (by simp) _).alloc (by simp; omega) _
  have hsyl : (symL l).length = N := by rw [symL_len, Hlen.out]
  have hA : NestAt (((w.alloc (.cells #[.slice (some ⟨gs, 0, none⟩) N N, .slice (some ⟨M, 0, none⟩) N N] 50)).alloc (.cells #[.slice none 0 0] 34)).alloc (.cells #[.slice (some ⟨gs, 0, none⟩) N N, .slice (some ⟨M, 0, none⟩) N N] 50)) (w.heap.size + 1 + 1) gs M N N N (symL l) (prts (ksOf l)) :=
    ⟨by simp [go_sem], by simp [go_sem], syms_cell (row_below hsy hb0), nums_cell (row_below hps hb0)⟩
  have hc0 : Coll w.heap.size (w.heap.size + 1) (w.heap.size + 1 + 1) 34 2 [] (fun _ => False) w (((w.alloc (.cells #[.slice (some ⟨gs, 0, none⟩) N N, .slice (some ⟨M, 0, none⟩) N N] 50)).alloc (.cells #[.slice none 0 0] 34)).alloc (.cells #[.slice (some ⟨gs, 0, none⟩) N N, .slice (some ⟨M, 0, none⟩) N N] 50)) := by
    have hbx := (Boxed.new (w.alloc (.cells #[.slice (some ⟨gs, 0, none⟩) N N, .slice (some ⟨M, 0, none⟩) N N] 50)) 34 (.slice none 0 0)).alloc (.cells #[.slice (some ⟨gs, 0, none⟩) N N, .slice (some ⟨M, 0, none⟩) N N] 50)
    rw [World.size_alloc] at hbx
    exact ⟨⟨_, hbx, World.ownsRow_nil _ _ _ _, fun g hg => by cases hg⟩, fun h => h, fun b h => h.elim, by simp, hb0⟩
  refine wpIn_rangeFunc_ownB rfl (by omega) (gf := 54) (lb := #[.pointer (some ⟨w.heap.size + 1 + 1, 0, none⟩)]) rfl trivial (enters_of Try.func54 (by kernel_rfl) rfl)
    (plc_stops _ (w.heap.size + 1 + 1) w.heap.size gs M N N N (symL l) (prts (ksOf l)) (ksOf l) (by omega) h60 hsyl (symL_kinds l).symm rfl (hsy.lt _ rfl).2 (hps.lt _ rfl).2 (symL_ok Hall.out) _ (by simp; omega) (by simp) hA) kpB_t (kpB_b (by simp; omega) (by simp)) (Below.refl _ _) (fun _ => rfl)
    (fun pre B W => Coll w.heap.size (w.heap.size + 1) (w.heap.size + 1 + 1) 34 2 (parV (ksOf l) pre) B w W)
    (Coll.own (parV (ksOf l)) (by simp; omega) (Nat.le_refl _))
    hc0
    (fun x => { tmps := #[.agg #[.slice (some ⟨gs, 0, none⟩) N N, .slice (some ⟨M, 0, none⟩) N N], .pointer (some ⟨w.heap.size, 0, none⟩), .slice none 0 0, .pointer (some ⟨w.heap.size + 1, 0, none⟩), undef, .int .i64 (parI (ksOf l) x.val), .agg #[.slice (some ⟨gs, 0, none⟩) N N, .slice (some ⟨M, 0, none⟩) N N], .func (.func 54) #[] #[.pointer (some ⟨w.heap.size + 1 + 1, 0, none⟩)], .int .i64 (x.val : Int), .int .i64 (parI (ksOf l) x.val), undef, undef, undef, undef, undef], defers := [] }) ?assign ?body ?done
  case assign =>
    intro l x W K hK
    gi_wp2
    exact hK
  case body =>
    rintro l' pre x B W hC hlt
    obtain ⟨v, hv, hr, ho⟩ := hC.val
    have hv0 := hv.cell
    have hsz := hC.below.size
    have hk : (parV (ksOf l) pre).length ≤ 60 := by rw [parV, List.length_map]; omega
    gi_wp2_with (gi_at_builtin; refine appendAt_in _ rfl _ _ 34 rfl w.heap.size 2 i0 (.int .i64 0) 1 8 Try.underlying34 hi hz0 hz1 hz2 rfl (by decide) _ _ _ rfl (hr.alloc _) ⟨W.heap.size, 0, none⟩ 1 1 [.int .i64 (parI (ksOf l) x.val)] rfl rfl (cell_one_new _ _ _) ?c2 ?c3 ?c4 ?c5 ?_)
    case c2 => simp [Value.oneCell']
    case c3 => unfold maxLen; omega
    case c4 => omega
    case c5 => simp; omega
    intro v' w2 hown hg hat
    obtain ⟨hv1, hC', hK1, hK2, hK3⟩ := hC.appended (n0 := (((w.alloc (.cells #[.slice (some ⟨gs, 0, none⟩) N N, .slice (some ⟨M, 0, none⟩) N N] 50)).alloc (.cells #[.slice none 0 0] 34)).alloc (.cells #[.slice (some ⟨gs, 0, none⟩) N N, .slice (some ⟨M, 0, none⟩) N N] 50)).heap.size) hv hr ho (by decide) (by omega) (by omega) (Nat.le_refl _) hown hg (by simpa using hat)
    obtain ⟨g', c', rfl⟩ := ownsRow_succ hown
    have hc1 := hv1.cell
    have hf1 := hv1.frozen
    have e : parV (ksOf l) (pre ++ [x]) = parV (ksOf l) pre ++ [.int .i64 (parI (ksOf l) x.val)] := by simp [parV]
    have E := Lib.hid e
    clear e
    gi_wp2
    exact ⟨hK1, hK2, hK3, by show Coll _ _ _ _ _ (parV (ksOf l) (pre ++ [x])) B w _; rw [E.out]; exact hC'⟩
  case done =>
    rintro D ys B W hD rfl hC hK
    obtain ⟨v, hv, hr, ho⟩ := hC.val
    have hv0 := hv.cell
    have e := parV_all (ksOf l) N
    have e2 : (parV (ksOf l) (upTo N N)).length = N := by rw [e, numsV, List.length_map, parL_len]
    rw [e2, e] at hr
    clear e e2
    have hD2 : w.heap.size ≤ D := by simp at hD; omega
    obtain ⟨A, c, rfl⟩ : ∃ A c, v = .slice A N c := by
      rcases hr.2 with ⟨rfl, h0⟩ | ⟨g, cap, cur, rfl, _⟩
      · exact ⟨none, 0, by rw [h0]⟩
      · exact ⟨_, _, rfl⟩
    gi_wp2
    refine ⟨by simp, .inl ⟨_, _, rfl, run_takeDeferred hK, ?_⟩⟩
    refine ⟨_, results_tmp rfl _ _ _, A, c, rfl, ownsRow_putObj hr _ hK rfl, hC.below.trans (belowK_b (w := w) (n₀ := w.heap.size) (Nat.le_refl _) W D _ _ hD2 hK rfl rfl)⟩

set_option maxHeartbeats 1600000 in
theorem impl_ParentsOf_yes (s : ByteArray) (w : World) (h : IsW s) :
    Calls Try.prog 17 #[.string s] w (NumsPost s.size (parL (ksOf s.data.toList) s.size) 0 w) := by
  have hp := fun w => impl_read_yes s w h.1 h.2
  have h60 := h.1
  have hall := h.2
  obtain ⟨l, hl⟩ : ∃ l, l = s.data.toList := ⟨_, rfl⟩
  have hlen : l.length = s.size := by rw [hl]; simp
  rw [← hl] at hp hall ⊢
  have Hp := Lib.hid hp
  have Hm := Lib.hid (fun (base gs M : Nat) (w : World) => impl_parents (base := base) (gs := gs) (M := M) w h60 hlen hall)
  clear h hp hl hlen hall
  go_enter Try.func17, Try.ntmps17
  go_wp2_with fail
  refine (Hp.out _).mono ?_
  rintro e w1 ⟨M, rfl, hsy, hps, hb⟩
  have hb1 : ∀ o, Below w1.heap.size w1 (w1.alloc o) := fun o => (Below.refl _ _).alloc (Nat.le_refl _) o
  have hq := fun o => Hm.out _ _ _ _ (row_below hsy (hb1 o)) (row_below hps (hb1 o))
  have Hq := Lib.hid hq
  have Hb := Lib.hid (And.intro hb hb.size)
  clear hsy hps hb1 hq hb
  go_wp2_with fail
  refine (Hq.out _).mono ?_
  rintro e w2 ⟨A, c, rfl, hr, hb2⟩
  have HR := Lib.hid (And.intro hr hb2)
  clear hr hb2
  go_wp2
  go_ret2
  have h1 := Hb.out.2
  exact ⟨A, c, rfl, row_base HR.out.1 (by simp; omega), (Hb.out.1.alloc h1 _).trans (HR.out.2.mono (by simp; omega))⟩

end Go.Proofs.Ytclcebakhohfnaa
