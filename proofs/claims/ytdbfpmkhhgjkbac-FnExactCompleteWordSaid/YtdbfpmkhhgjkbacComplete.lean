/- CompleteWord, of the model and of the program. -/
import Derived.Test.YtdbfpmkhhgjkbacCore
import Derived.Test.YtdbfpmkhhgjkbacJoin
import Derived.Laws.IdiomStrings
namespace Go.Proofs.Ytdbfpmkhhgjkbac
open Go.RowKit Go.Shelf

attribute [local go_sem] Oper.semAt_some

/-! Plain mathematics: what is put in front, and what behind. -/
theorem six_byte {b : UInt8} (h : 0 ≤ symNo (b.toNat : Int)) : b = 40 ∨ b = 91 ∨ b = 41 ∨ b = 93 ∨ b = 97 ∨ b = 98 := by
  rw [← byte_sym h]
  rcases six _ ⟨h, symNo_le _⟩ with e | e | e | e | e | e <;> (rw [e]; decide)
def turnX (b : UInt8) : UInt8 := byteOf (turnS (symNo b.toNat))
theorem other_turnX {b : UInt8} (h : 0 ≤ symNo (b.toNat : Int)) : otherB b.toNat = ((turnX b).toNat : Int) := by
  rcases six_byte h with rfl | rfl | rfl | rfl | rfl | rfl <;> rfl
theorem turnX_byte {n : Int} (h : 0 ≤ n ∧ n ≤ 5) : turnX (byteOf n) = byteOf (turnS n) ∧ callB ((byteOf n).toNat : Int) = callS n ∧ retB ((byteOf n).toNat : Int) = retS n ∧ 0 ≤ symNo ((byteOf n).toNat : Int) := by
  rcases six n h with rfl | rfl | rfl | rfl | rfl | rfl <;> decide
theorem turnS_in {n : Int} (h : 0 ≤ n ∧ n ≤ 5) : 0 ≤ turnS n ∧ turnS n ≤ 5 := by
  rcases six n h with rfl | rfl | rfl | rfl | rfl | rfl <;> decide

def frL (c : List UInt8) : List UInt8 := List.replicate (c.filter fun b => retB (b.toNat : Int)).length 40
def beL (c : List UInt8) : List UInt8 := (c.reverse.filter fun b => callB (b.toNat : Int)).map turnX
theorem frL_le (c : List UInt8) : (frL c).length ≤ c.length := by rw [frL, List.length_replicate]; exact List.length_filter_le _ _
theorem beL_le (c : List UInt8) : (beL c).length ≤ c.length := by
  rw [beL, List.length_map]; exact Nat.le_trans (List.length_filter_le _ _) (by simp)
theorem frL_yes {c : List UInt8} {b : UInt8} (h : retB (b.toNat : Int) = true) : frL (c ++ [b]) = 40 :: frL c := by
  simp [frL, List.filter_append, h, List.replicate_succ]
theorem frL_no {c : List UInt8} {b : UInt8} (h : retB (b.toNat : Int) = false) : frL (c ++ [b]) = frL c := by
  simp [frL, List.filter_append, h]
theorem frL_back {c : List UInt8} {b : UInt8} (h : retB (b.toNat : Int) = true) : frL (c ++ [b]) = frL c ++ [40] := by
  rw [frL_yes h, frL, ← List.replicate_succ, List.replicate_succ']
theorem beL_yes {c : List UInt8} {b : UInt8} (h : callB (b.toNat : Int) = true) : beL (b :: c) = beL c ++ [turnX b] := by
  simp [beL, List.filter_append, h]
theorem beL_no {c : List UInt8} {b : UInt8} (h : callB (b.toNat : Int) = false) : beL (b :: c) = beL c := by
  simp [beL, List.filter_append, h]
theorem beL_front {c : List UInt8} {b : UInt8} (h : callB (b.toNat : Int) = true) : beL (c ++ [b]) = turnX b :: beL c := by
  simp [beL, h]
theorem beL_same {c : List UInt8} {b : UInt8} (h : callB (b.toNat : Int) = false) : beL (c ++ [b]) = beL c := by
  simp [beL, h]
theorem size_of (t : ByteArray) (l : List UInt8) (h : t.data.toList = l) : t.size = l.length := by rw [← h, Array.length_toList]; rfl

theorem info_byte : (Try.prog.info? 5).map (fun i => (i.zero, i.size, i.bytes)) = some (some (.int .u8 0), 1, 1) := by kernel_rfl
theorem conv_one (w : World) (b : UInt8) :
    (convert 57 9 (.slice (some ⟨w.heap.size, 0, none⟩) 1 1)).run Try.prog (w.alloc (.cells #[.int .u8 (b.toNat : Int)] 5)) = .ok (.string ⟨#[b]⟩) (w.alloc (.cells #[.int .u8 (b.toNat : Int)] 5)) := by
  have := run_convert_bytes_back (P := Try.prog) (w.alloc (.cells #[.int .u8 (b.toNat : Int)] 5)) 57 9 5 ⟨w.heap.size, 0, none⟩ 1 [b] Try.underlying57 Try.underlying5 Try.underlying9 fun j hj => by
    obtain rfl : j = 0 := by simpa using hj
    simp [go_sem, Addr.add]
  simpa using this

def compL (l c : List UInt8) : List UInt8 := frL c ++ l ++ beL c

set_option maxHeartbeats 3200000 in
set_option maxRecDepth 100000 in
theorem spec_complete (s c r : ByteArray) (w : World) (hw : IsW s) (hcore : ∀ w, Calls Try.prog 39 #[.string s] w (TupPost (.string c) w)) (hc60 : c.size ≤ 60) (hcs : AllSym c.data.toList)
    (hr : r.data.toList = compL s.data.toList c.data.toList) :
    Calls Try.prog 25 #[.string s] w (TupPost (toldV r) w) := by
  have h60 := hw.1
  obtain ⟨l, hl⟩ : ∃ l, l = s.data.toList := ⟨_, rfl⟩
  have hlen : l.length = s.size := by rw [hl]; simp
  obtain ⟨cl, hcl⟩ : ∃ cl, cl = c.data.toList := ⟨_, rfl⟩
  have hclen : cl.length = c.size := by rw [hcl]; simp
  rw [← hl, ← hcl] at hr
  rw [← hcl] at hcs
  have hrz : r.size ≤ 1048576 := by
    rw [size_of r _ hr, compL, List.length_append, List.length_append]
    have := frL_le cl
    have := beL_le cl
    omega
  obtain ⟨r0, code, hrv⟩ := toldV_form r
  have ht := fun w => spec_told r w hrz
  rw [hrv] at ht ⊢
  have Ht := Lib.hid ht
  have Hl := Lib.hid hl
  have Hlen := Lib.hid hlen
  have Hcl := Lib.hid hcl
  have Hclen := Lib.hid hclen
  have Hcs := Lib.hid hcs
  have Hr := Lib.hid hr
  have Hw := Lib.hid hw
  have Hcore := Lib.hid hcore
  clear hr hrz hrv ht hl hlen hcl hclen hcs hw hcore
  go_enter Try.func25, Try.ntmps25
  go_wp2_with (first
    | (go_at_call 29; refine (spec_ok_yes _ _ Hw.out).mono ?_; rintro e w' ⟨rfl, rfl⟩)
    | (go_at_call 39; refine (Hcore.out _).mono ?_; rintro e w1 ⟨rfl, hb⟩))
  go_loop [5, 6] (fun v i => ∃ (k : Nat) (t : ByteArray), k ≤ c.size ∧ i = .int .i64 k ∧ v = .string t ∧ t.size ≤ 60 + k ∧ Hid (t.data.toList = frL (cl.take k) ++ l)) (fun _ i => c.size - (intOf i).toNat)
  case atStart => exact ⟨0, s, Nat.zero_le _, rfl, rfl, by omega, by show _ = _; rw [← Hl.out]; rfl⟩
  case round =>
    obtain ⟨k, t, hk, rfl, rfl, htk, ht⟩ := hrel
    by_cases hlt : k < c.size
    · have hlb : Hid (cl[k]? = some c[k]) := by
        show _ = _
        rw [Hcl.out, List.getElem?_eq_getElem (by simpa using hlt)]; rfl
      cases hrt : retB (c[k].toNat : Int) with
      | true =>
        have fin : ((⟨#[40]⟩ : ByteArray) ++ t).size ≤ 60 + (k + 1) ∧ Hid (((⟨#[40]⟩ : ByteArray) ++ t).data.toList = frL (cl.take (k + 1)) ++ l) := by
          refine ⟨by rw [ByteArray.size_append]; show 1 + t.size ≤ _; omega, ?_⟩
          show _ = _
          rw [List.take_add_one, hlb.out]
          show _ = frL (cl.take k ++ [c[k]]) ++ l
          rw [frL_yes hrt, ByteArray.data_append, Array.toList_append, ht.out]
          rfl
        have Fin := Lib.hid fin
        clear fin hlb
        go_wp2_with (go_at_call 40; refine (spec_return _ _).mono ?_; rintro e w' ⟨rfl, rfl⟩; rw [hrt])
        go_round
        case rel => exact ⟨k + 1, _, by omega, by go_num, rfl, Fin.out.1, Fin.out.2⟩
        case measure => simp [intOf]; omega
      | false =>
        have fin : Hid (t.data.toList = frL (cl.take (k + 1)) ++ l) := by
          show _ = _
          rw [List.take_add_one, hlb.out]
          show _ = frL (cl.take k ++ [c[k]]) ++ l
          rw [frL_no hrt]
          exact ht.out
        clear hlb
        go_wp2_with (go_at_call 40; refine (spec_return _ _).mono ?_; rintro e w' ⟨rfl, rfl⟩; rw [hrt])
        go_round
        case rel => exact ⟨k + 1, t, by omega, by go_num, rfl, by omega, fin⟩
        case measure => simp [intOf]; omega
    · have e : k = c.size := by omega
      subst e
      rw [List.take_of_length_le (by rw [Hclen.out]; exact Nat.le_refl _)] at ht
      go_wp2
      go_loopw [5, 7] (fun v i wr => ∃ (j : Nat) (t : ByteArray), j ≤ c.size ∧ i = .int .i64 ((j : Int) - 1) ∧ v = .string t ∧ t.size ≤ 120 + (c.size - j) ∧ Hid (t.data.toList = frL cl ++ l ++ beL (cl.drop j)) ∧ Below w.heap.size w wr) (fun _ i _ => (intOf i + 1).toNat)
      case atStart =>
        refine ⟨c.size, t, Nat.le_refl _, by go_num, rfl, by omega, ?_, hb⟩
        show _ = _
        rw [List.drop_of_length_le (by rw [Hclen.out]; exact Nat.le_refl _), ht.out]
        simp [beL]
      case round =>
        clear ht htk
        obtain ⟨j, t, hj, rfl, rfl, htj, ht, hB⟩ := hrel
        cases j with
        | zero =>
          have e : t = r := by
            have h1 := ht.out
            rw [List.drop_zero] at h1
            have h2 := Hr.out
            rw [compL, ← h1] at h2
            have h3 : t.data = r.data := Array.toList_inj.1 h2.symm
            cases t; cases r; cases h3; rfl
          subst e
          rw [show ((0 : Nat) : Int) - 1 = -1 from rfl]
          clear ht htj
          go_wp2_with (go_at_call 43; refine (Ht.out _).mono ?_; rintro e w' ⟨rfl, rfl⟩)
          go_ret2
          exact ⟨rfl, hB⟩
        | succ j =>
          have hlt : j < c.size := by omega
          have hlb : Hid (cl[j]? = some c[j]) := by
            show _ = _
            rw [Hcl.out, List.getElem?_eq_getElem (by simpa using hlt)]; rfl
          have hdr : cl.drop j = c[j] :: cl.drop (j + 1) := by
            obtain ⟨h1, h2⟩ := List.getElem?_eq_some_iff.1 hlb.out
            rw [List.drop_eq_getElem_cons h1, h2]
          have hsy := Hcs.out _ (List.mem_of_getElem? hlb.out)
          have ht150 : t.size ≤ 200 := by omega
          rw [show ((j + 1 : Nat) : Int) - 1 = (j : Int) from by omega]
          cases hct : callB (c[j].toNat : Int) with
          | true =>
            have fin : (t ++ (⟨#[turnX c[j]]⟩ : ByteArray)).size ≤ 120 + (c.size - j) ∧ Hid ((t ++ (⟨#[turnX c[j]]⟩ : ByteArray)).data.toList = frL cl ++ l ++ beL (cl.drop j)) := by
              refine ⟨by rw [ByteArray.size_append]; show t.size + 1 ≤ _; omega, ?_⟩
              show _ = _
              rw [hdr, beL_yes hct, ByteArray.data_append, Array.toList_append, ht.out, List.append_assoc (frL cl ++ l)]
            have Fin := Lib.hid fin
            have ho := Lib.hid (other_turnX hsy)
            have hcv := conv_one wr (turnX c[j])
            have hBa := hB.alloc hB.size (.cells #[.int .u8 ((turnX c[j]).toNat : Int)] 5)
            have hz : (⟨#[turnX c[j]]⟩ : ByteArray).size = 1 := rfl
            clear fin hlb hdr hsy
            go_wp2_with (first
              | (go_at_call 41; refine (spec_call _ _).mono ?_; rintro e w' ⟨rfl, rfl⟩; rw [hct])
              | (go_at_call 42; refine (spec_other _ _).mono ?_; rintro e w' ⟨rfl, rfl⟩; rw [ho.out]))
            go_roundw
            case rel => exact ⟨j, _, by omega, by go_num, rfl, Fin.out.1, Fin.out.2, hBa⟩
            case measure => simp [intOf]
          | false =>
            have fin : Hid (t.data.toList = frL cl ++ l ++ beL (cl.drop j)) := by
              show _ = _
              rw [hdr, beL_no hct]; exact ht.out
            clear hlb hdr hsy
            go_wp2_with (go_at_call 41; refine (spec_call _ _).mono ?_; rintro e w' ⟨rfl, rfl⟩; rw [hct])
            go_roundw
            case rel => exact ⟨j, t, by omega, by go_num, rfl, by omega, fin, hB⟩
            case measure => simp [intOf]

/-! What is pending and no call is a return. -/
def byL (pre : List PS) : List UInt8 := pre.map fun x => byteOf x.1.2
def frP (pre : List PS) : List UInt8 := List.replicate (pre.filter fun x => !callS x.1.2).length 40
theorem frP_le (pre : List PS) : (frP pre).length ≤ pre.length := by rw [frP, List.length_replicate]; exact List.length_filter_le _ _
theorem frP_call {pre : List PS} {x : PS} (h : callS x.1.2 = true) : frP (pre ++ [x]) = frP pre := by simp [frP, List.filter_append, h]
theorem frP_ret {pre : List PS} {x : PS} (h : callS x.1.2 = false) : frP (pre ++ [x]) = frP pre ++ [40] := by
  simp [frP, List.filter_append, h, List.replicate_succ']
theorem beP_call {pre : List PS} {x : PS} (h : callS x.1.2 = true) : beL (byL (pre ++ [x])) = byteOf (turnS x.1.2) :: beL (byL pre) := by
  obtain ⟨h1, h2, _, _⟩ := turnX_byte x.2
  have e : byL (pre ++ [x]) = byL pre ++ [byteOf x.1.2] := by simp [byL]
  rw [e, beL_front (by rw [h2]; exact h), h1]
theorem beP_ret {pre : List PS} {x : PS} (h : callS x.1.2 = false) : beL (byL (pre ++ [x])) = beL (byL pre) := by
  obtain ⟨_, h2, _, _⟩ := turnX_byte x.2
  have e : byL (pre ++ [x]) = byL pre ++ [byteOf x.1.2] := by simp [byL]
  rw [e, beL_same (by rw [h2]; exact h)]
theorem byL_len (pre : List PS) : (byL pre).length = pre.length := by simp [byL]
theorem frP_eq (L : List PS) (h : ∀ x ∈ L, retS x.1.2 = !callS x.1.2) : frP L = frL (byL L) := by
  refine congrArg (fun n => List.replicate n (40 : UInt8)) ?_
  induction L with
  | nil => rfl
  | cons x L ih =>
    have h1 := h x (by simp)
    obtain ⟨_, _, h3, _⟩ := turnX_byte x.2
    have ih := ih fun y hy => h y (by simp [hy])
    have e : byL (x :: L) = byteOf x.1.2 :: byL L := rfl
    rw [e]
    cases hc : callS x.1.2 <;> rw [hc] at h1 <;> simp [hc, h3, h1, ih]
theorem pend_ret (l : List UInt8) (hall : AllSym l) (k : Nat) (hk : k ≤ l.length) : ∀ x ∈ pend (symL l) (prts (ksOf l)) k, retS x.1.2 = !callS x.1.2 := by
  induction k with
  | zero => intro x hx; simp [pend] at hx
  | succ k ih =>
    intro x hx
    have ih := ih (by omega)
    obtain ⟨b, hb⟩ : ∃ b, l[k]? = some b := ⟨_, List.getElem?_eq_getElem (by omega)⟩
    have hs := hall b (List.mem_of_getElem? hb)
    have hsy : (symL l)[k]?.getD 0 = symNo (b.toNat : Int) := by simp [symL, hb]
    have hkk := ksOf_at l k b hb
    obtain ⟨c1, c2, c3⟩ := call_kind hs
    by_cases hp : (prts (ksOf l))[k]? = some (-2)
    · have hk2 : kindS (symNo (b.toNat : Int)) ≠ 2 := fun e => by
        have := prts_at_inner (ksOf l) k 2 (by rw [hkk, e]) (by decide) (by decide)
        rw [hp] at this
        simp at this
      have c4 := c3 hk2
      rw [pend_yes hp (by rw [hsy]; exact ⟨hs, symNo_le _⟩), List.mem_append] at hx
      rcases hx with hx | hx
      · exact ih x hx
      · simp only [List.mem_singleton] at hx
        subst hx
        show retS ((symL l)[k]?.getD 0) = !callS ((symL l)[k]?.getD 0)
        rw [hsy, ← c1, ← c2]; exact c4
    · rw [pend_no hp] at hx
      exact ih x hx

set_option maxRecDepth 100000 in
set_option maxHeartbeats 2000000 in
theorem impl_complete (s r : ByteArray) (w : World) (h : IsW s) (hr : r.data.toList = compL s.data.toList (coreL s.data.toList (prts (ksOf s.data.toList)) s.size)) :
    Calls Try.prog 26 #[.string s] w (TupPost (toldV r) w) := by
  have hp := fun w => impl_read_yes s w h.1 h.2
  have h60 := h.1
  have hall := h.2
  obtain ⟨l, hl⟩ : ∃ l, l = s.data.toList := ⟨_, rfl⟩
  have hlen : l.length = s.size := by rw [hl]; simp
  rw [← hl] at hp hall hr
  have hcl : (coreL l (prts (ksOf l)) s.size).length ≤ s.size := coreL_len _ _ _
  have hrz : r.size ≤ 1048576 := by
    rw [size_of r _ hr, compL, List.length_append, List.length_append]
    have := frL_le (coreL l (prts (ksOf l)) s.size)
    have := beL_le (coreL l (prts (ksOf l)) s.size)
    omega
  obtain ⟨r0, code, hrv⟩ := toldV_form r
  have ht := fun w => impl_told r w hrz
  rw [hrv] at ht ⊢
  have Ht := Lib.hid ht
  have Hr := Lib.hid hr
  have Hp := Lib.hid hp
  have Hl := Lib.hid hl
  have Hlen := Lib.hid hlen
  have Hall := Lib.hid hall
  clear h hp hl hlen hall hr hrz hrv ht hcl
  refine (callsIn_wide (n := 4)).1 ?_
  refine callsIn_of_wp_marks Try.func26 rfl trivial ?_ rfl
  simp only [Try.ntmps26, List.size_toArray, List.length_cons, List.length_nil, Nat.reduceAdd, Nat.reduceSub, Array.replicate_succ, Array.replicate_zero, List.push_toArray, List.append_toArray, List.nil_append, List.cons_append]
  gi_wp2_with (first
    | (refine ⟨trivial, ?_⟩; gi_at_call 32; refine (callsIn_wide.2 (Hp.out _)).mono ?_; rintro e w1 ⟨M, rfl, hsy, hps, hb⟩)
    | (refine ⟨trivial, ?_⟩; gi_at_call 44; refine (pendingPlaces_in Fence.wide _ trivial rfl _ _ _).mono ?_; rintro e w' ⟨rfl, rfl⟩))
  have hb0 : Below w1.heap.size w1 ((((w1.alloc (.cells #[.slice (some ⟨w.heap.size + 1 + 1, 0, none⟩) s.size s.size, .slice (some ⟨M, 0, none⟩) s.size s.size] 43)).alloc (.cells #[.string ⟨#[]⟩] 9)).alloc (.cells #[.string ⟨#[]⟩] 9)).alloc (.cells #[.slice (some ⟨w.heap.size + 1 + 1, 0, none⟩) s.size s.size, .slice (some ⟨M, 0, none⟩) s.size s.size] 43)) := ((((Below.refl _ w1).alloc (Nat.le_refl _) _).alloc (by simp) _).alloc (by simp; omega) _).alloc (by simp; omega) _
  have hsyl : (symL l).length = s.size := by rw [symL_len, Hlen.out]
  have hpsl : (prts (ksOf l)).length = s.size := by rw [prts_len, ksOf_len, Hlen.out]
  have hA : NestAt ((((w1.alloc (.cells #[.slice (some ⟨w.heap.size + 1 + 1, 0, none⟩) s.size s.size, .slice (some ⟨M, 0, none⟩) s.size s.size] 43)).alloc (.cells #[.string ⟨#[]⟩] 9)).alloc (.cells #[.string ⟨#[]⟩] 9)).alloc (.cells #[.slice (some ⟨w.heap.size + 1 + 1, 0, none⟩) s.size s.size, .slice (some ⟨M, 0, none⟩) s.size s.size] 43)) (w1.heap.size + 1 + 1 + 1) (w.heap.size + 1 + 1) M s.size s.size s.size (symL l) (prts (ksOf l)) :=
    ⟨by simp [go_sem], by simp [go_sem], syms_cell (row_below hsy hb0), nums_cell (row_below hps hb0)⟩
  refine wpIn_rangeFunc_ownG rfl (by omega) (gf := 56) (lb := #[.pointer (some ⟨w1.heap.size + 1 + 1 + 1, 0, none⟩)]) rfl trivial (enters_of Try.func56 (by kernel_rfl) rfl)
    (pend_stops Fence.wide _ trivial rfl (by omega) (w1.heap.size + 1 + 1 + 1) w1.heap.size (w.heap.size + 1 + 1) M s.size s.size s.size (symL l) (prts (ksOf l)) h60 hsyl hpsl (hsy.lt _ rfl).2 (hps.lt _ rfl).2 (symL_ok Hall.out) _ (by simp; omega) (by simp) hA) kpB_t (kpB_b (by simp; omega) (by simp)) (Below.refl _ _) (fun _ => rfl)
    (fun pre W => ((∃ tf tb : ByteArray, (W.cell? ⟨w1.heap.size + 1, 0, none⟩ = some (.string tf) ∧ W.cell? ⟨w1.heap.size + 1 + 1, 0, none⟩ = some (.string tb)) ∧ tf.data.toList = frP pre ∧ tb.data.toList = beL (byL pre)) ∧ W.frozen? ⟨w1.heap.size + 1, 0, none⟩ = false ∧ W.frozen? ⟨w1.heap.size + 1 + 1, 0, none⟩ = false) ∧ Below w1.heap.size w1 W)
    (fun _ _ _ => False)
    (OwnFrom.and (Own.from (fun s A B row hs hg hr => by obtain ⟨⟨tf, tb, ⟨h1, h2⟩, h3⟩, h4, h5⟩ := hs; exact ⟨⟨tf, tb, ⟨cell_kept h1 hg hr, cell_kept h2 hg hr⟩, h3⟩, (frozen_kept h1 hg hr).trans h4, (frozen_kept h2 hg hr).trans h5⟩) _) (ownFrom_below (Nat.le_refl _) (by simp; omega)))
    (fun _ _ _ _ _ hs _ _ => hs)
    ⟨⟨⟨⟨#[]⟩, ⟨#[]⟩, ⟨by simp [go_sem], by simp [go_sem]⟩, rfl, rfl⟩, by simp [go_sem], by simp [go_sem]⟩, hb0⟩
    (fun x => { tmps := #[.string s, undef, .string ⟨#[]⟩, .int .i64 0, .pointer (some ⟨w1.heap.size, 0, none⟩), .bool true, .pointer (some ⟨w1.heap.size + 1, 0, none⟩), .pointer (some ⟨w1.heap.size + 1 + 1, 0, none⟩), undef, .int .u8 x.1.2, .tuple #[.agg #[.slice (some ⟨w.heap.size + 1 + 1, 0, none⟩) s.size s.size, .slice (some ⟨M, 0, none⟩) s.size s.size], .bool true], .string s, .tuple #[.agg #[.slice (some ⟨w.heap.size + 1 + 1, 0, none⟩) s.size s.size, .slice (some ⟨M, 0, none⟩) s.size s.size], .bool true], .agg #[.slice (some ⟨w.heap.size + 1 + 1, 0, none⟩) s.size s.size, .slice (some ⟨M, 0, none⟩) s.size s.size], .bool true, .bool true, .bool false, .agg #[.slice (some ⟨w.heap.size + 1 + 1, 0, none⟩) s.size s.size, .slice (some ⟨M, 0, none⟩) s.size s.size], .func (.func 56) #[] #[.pointer (some ⟨w1.heap.size + 1 + 1 + 1, 0, none⟩)], .int .i64 x.1.1, .int .u8 x.1.2, undef, undef, undef, undef, undef, undef, undef, undef, undef, undef, undef, undef, undef, undef, undef, undef, undef, undef], defers := [] }) ?assign ?body ?done ?stop
  case assign =>
    intro l x W K hK
    gi_wp2
    exact hK
  case body =>
    rintro l' pre x W ⟨⟨⟨tf, tb, ⟨hc1, hc2⟩, htf, htb⟩, hf1, hf2⟩, hB⟩ hlt
    have hz1 : tf.size ≤ 60 := by rw [size_of _ _ htf]; have := frP_le pre; omega
    have hz2 : tb.size ≤ 60 := by rw [size_of _ _ htb]; have := beL_le (byL pre); rw [byL_len] at this; omega
    have Htf := Lib.hid htf
    have Htb := Lib.hid htb
    clear htf htb hlt
    have hx := x.2
    have hmx : Try.prog.follows .mixedOrders = true := by kernel_rfl
    cases hcs : callS x.1.2 with
    | true =>
      gi_wp2_with (first
        | (gi_at_call 45; refine (CallsIn.inRound l' (callsIn_wide.2 (impl_isCall _ _))).mono ?_; rintro e w' ⟨rfl, rfl⟩; rw [hcs])
        | (refine ⟨trivial, ?_⟩; gi_at_call 45; refine (CallsIn.inRound l' (callsIn_wide.2 (impl_isCall _ _))).mono ?_; rintro e w' ⟨rfl, rfl⟩; rw [hcs]))
      gi_region_with_o (first
        | (gi_at_call 46; refine (CallsIn.inRound l' (callsIn_wide.2 (impl_turned _ _ hx))).mono ?_; rintro e w' ⟨rfl, rfl⟩)
        | (refine ⟨trivial, ?_⟩; gi_at_call 46; refine (CallsIn.inRound l' (callsIn_wide.2 (impl_turned _ _ hx))).mono ?_; rintro e w' ⟨rfl, rfl⟩)
        | (gi_at_call 47; refine (CallsIn.inRound l' (callsIn_wide.2 (impl_text _ _ (turnS_in hx)))).mono ?_; rintro e w' ⟨rfl, rfl⟩)
        | (refine ⟨trivial, ?_⟩; gi_at_call 47; refine (CallsIn.inRound l' (callsIn_wide.2 (impl_text _ _ (turnS_in hx)))).mono ?_; rintro e w' ⟨rfl, rfl⟩))
      all_goals gi_wp2
      all_goals
        refine ⟨((KeepsOthers.setCell _ _ _).trans (KeepsOthers.drew _)).from _, ⟨((Below.refl _ _).setCell (p := ⟨w1.heap.size + 1 + 1, 0, none⟩) (by simp; omega) _).drew, Below.heap_setCell _ _ _ _ (by simp)⟩, ⟨⟨⟨tf, _, ⟨(World.cell?_setCell_other _ _ _ _ (by simp)).trans hc1, World.cell?_setCell_same' _ _ _ (by rw [hc2]; rfl)⟩, ?_, ?_⟩, ?_, ?_⟩, (hB.setCell (p := ⟨w1.heap.size + 1 + 1, 0, none⟩) (by simp; omega) _).drew⟩⟩
        · rw [Htf.out, frP_call hcs]
        · rw [ByteArray.data_append, Array.toList_append, Htb.out, beP_call hcs]; rfl
        · rw [frozen_drew_own, World.frozen?_setCell]; exact hf1
        · rw [frozen_drew_own, World.frozen?_setCell]; exact hf2
    | false =>
      gi_wp2_with (first
        | (gi_at_call 45; refine (CallsIn.inRound l' (callsIn_wide.2 (impl_isCall _ _))).mono ?_; rintro e w' ⟨rfl, rfl⟩; rw [hcs])
        | (refine ⟨trivial, ?_⟩; gi_at_call 45; refine (CallsIn.inRound l' (callsIn_wide.2 (impl_isCall _ _))).mono ?_; rintro e w' ⟨rfl, rfl⟩; rw [hcs]))
      gi_region_with_o (first
        | (gi_at_call 47; refine (CallsIn.inRound l' (callsIn_wide.2 (impl_text 0 _ (by decide)))).mono ?_; rintro e w' ⟨rfl, rfl⟩)
        | (refine ⟨trivial, ?_⟩; gi_at_call 47; refine (CallsIn.inRound l' (callsIn_wide.2 (impl_text 0 _ (by decide)))).mono ?_; rintro e w' ⟨rfl, rfl⟩))
      all_goals gi_wp2
      all_goals
        refine ⟨((KeepsOthers.setCell _ _ _).trans (KeepsOthers.drew _)).from _, ⟨((Below.refl _ _).setCell (p := ⟨w1.heap.size + 1, 0, none⟩) (by simp) _).drew, Below.heap_setCell _ _ _ _ (by simp; omega)⟩, ⟨⟨⟨_, tb, ⟨World.cell?_setCell_same' _ _ _ (by rw [hc1]; rfl), (World.cell?_setCell_other _ _ _ _ (by simp)).trans hc2⟩, ?_, ?_⟩, ?_, ?_⟩, (hB.setCell (p := ⟨w1.heap.size + 1, 0, none⟩) (by simp) _).drew⟩⟩
        · rw [ByteArray.data_append, Array.toList_append, Htf.out, frP_ret hcs]; rfl
        · rw [Htb.out, beP_ret hcs]
        · rw [frozen_drew_own, World.frozen?_setCell]; exact hf1
        · rw [frozen_drew_own, World.frozen?_setCell]; exact hf2
  case done =>
    rintro D ys W hD rfl ⟨⟨⟨tf, tb, ⟨hc1, hc2⟩, htf, htb⟩, hf1, hf2⟩, hB⟩ hK
    have hpl : (pend (symL l) (prts (ksOf l)) s.size).length ≤ s.size := pend_len _ _ _
    have hz1 : tf.size ≤ 60 := by rw [size_of _ _ htf]; have := frP_le (pend (symL l) (prts (ksOf l)) s.size); omega
    have hz2 : tb.size ≤ 60 := by rw [size_of _ _ htb]; have := beL_le (byL (pend (symL l) (prts (ksOf l)) s.size)); rw [byL_len] at this; omega
    rw [frP_eq _ (pend_ret l Hall.out s.size (by rw [Hlen.out]; exact Nat.le_refl _))] at htf
    have e2 : r = tf ++ s ++ tb := by
      have h1 : r.data.toList = (tf ++ s ++ tb).data.toList := by
        rw [Hr.out, compL, ByteArray.data_append, Array.toList_append, ByteArray.data_append, Array.toList_append, htf, htb, ← Hl.out]; rfl
      have h3 : r.data = (tf ++ s ++ tb).data := Array.toList_inj.1 h1
      exact ByteArray.ext h3
    subst e2
    clear htf htb hpl
    gi_wp2_with (refine ⟨trivial, ?_⟩; gi_at_call 48; refine (callsIn_wide.2 (Ht.out _)).mono ?_; rintro e w' ⟨rfl, rfl⟩)
    refine ⟨by simp, .inl ⟨_, _, rfl, run_takeDeferred hK, ?_⟩⟩
    exact ⟨_, results_tmp2 rfl _ _ _, rfl, (hb.trans (hB.mono hb.size)).trans (belowK_b (w := w) (Nat.le_refl _) W D _ _ (by have := hb.size; simp at hD; omega) hK rfl rfl)⟩
  case stop =>
    rintro D c pre W _ _ h _
    exact h.elim

theorem spec_complete_no (s : ByteArray) (w : World) (hs : s.size ≤ 1048576) (h : ¬ IsW s) :
    Calls Try.prog 25 #[.string s] w (TupPost (.tuple #[.string ⟨#[]⟩, .int .i64 1]) w) := by
  have H := Lib.hid h
  clear h
  go_enter Try.func25, Try.ntmps25
  go_wp2_with (go_at_call 29; refine (spec_ok_no _ _ hs H.out).mono ?_; rintro e w' ⟨rfl, rfl⟩)
  go_ret2
  exact ⟨rfl, Below.refl _ _⟩
theorem impl_complete_no (s : ByteArray) (w : World) (hs : s.size ≤ 1048576) (h : ¬ IsW s) :
    Calls Try.prog 26 #[.string s] w (TupPost (.tuple #[.string ⟨#[]⟩, .int .i64 1]) w) := by
  have H := Lib.hid h
  clear h
  go_enter Try.func26, Try.ntmps26
  go_wp2_with (go_at_call 32; refine (impl_read_no _ _ hs H.out).mono ?_; rintro e w1 ⟨rfl, hb⟩)
  go_ret2
  exact ⟨rfl, hb.alloc hb.size _⟩

theorem both_CompleteWord (s : ByteArray) (hs : s.size ≤ 1048576) : ∃ (r : ByteArray) (code : Int),
    (∀ w, Calls Try.prog 25 #[.string s] w (TupPost (.tuple #[.string r, .int .i64 code]) w)) ∧ (∀ w, Calls Try.prog 26 #[.string s] w (TupPost (.tuple #[.string r, .int .i64 code]) w)) := by
  by_cases h : IsW s
  · obtain ⟨c, hc⟩ : ∃ c : ByteArray, c = ⟨(coreL s.data.toList (prts (ksOf s.data.toList)) s.size).toArray⟩ := ⟨_, rfl⟩
    have hcl : c.data.toList = coreL s.data.toList (prts (ksOf s.data.toList)) s.size := by rw [hc]
    have hcs : AllSym c.data.toList := by
      rw [hcl]
      intro b hb
      obtain ⟨x, _, rfl⟩ := List.mem_map.1 hb
      exact (turnX_byte x.2).2.2.2
    have hc60 : c.size ≤ 60 := by
      rw [size_of c _ hcl]
      have := coreL_len s.data.toList (prts (ksOf s.data.toList)) s.size
      have := h.1
      omega
    obtain ⟨r, hr⟩ : ∃ r : ByteArray, r = ⟨(compL s.data.toList c.data.toList).toArray⟩ := ⟨_, rfl⟩
    have hrl : r.data.toList = compL s.data.toList c.data.toList := by rw [hr]
    obtain ⟨r0, code, hv⟩ := toldV_form r
    exact ⟨r0, code, fun w => hv ▸ spec_complete s c r w h (fun w => by rw [hc]; exact spec_core s w h) hc60 hcs hrl, fun w => hv ▸ impl_complete s r w h (by rw [← hcl]; exact hrl)⟩
  · exact ⟨_, _, fun w => spec_complete_no s w hs h, fun w => impl_complete_no s w hs h⟩
end Go.Proofs.Ytdbfpmkhhgjkbac
