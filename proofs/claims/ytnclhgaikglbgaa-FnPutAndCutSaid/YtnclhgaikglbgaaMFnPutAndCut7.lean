import Derived.Test.YtnclhgaikglbgaaMFnPutAndCut3
import Derived.Test.YtnclhgaikglbgaaMFnPutAndCut6
import Derived.Laws.IdiomStrings
/- The program's ValidWord. -/
namespace Go.Proofs.Ytnclhgaikglbgaa
open Go.RowKit

theorem impl_valid_yes (s : ByteArray) (w : World) (h : IsW s) :
    Calls Try.prog 46 #[.string s] w fun e w' => e = .returned (.bool true) ∧ Below w.heap.size w w' := by
  have H := Lib.hid h
  clear h
  go_enter Try.func46, Try.ntmps46
  go_wp2_with (go_at_call 31; refine (impl_read_yes _ _ H.out.1 H.out.2).mono ?_; rintro e w1 ⟨M, rfl, _, _, hb⟩)
  go_ret
  exact ⟨rfl, hb.alloc hb.size _⟩
theorem impl_valid_no (s : ByteArray) (w : World) (hs : s.size ≤ 1048576) (h : ¬ IsW s) :
    Calls Try.prog 46 #[.string s] w fun e w' => e = .returned (.bool false) ∧ Below w.heap.size w w' := by
  have H := Lib.hid h
  clear h
  go_enter Try.func46, Try.ntmps46
  go_wp2_with (go_at_call 31; refine (impl_read_no _ _ hs H.out).mono ?_; rintro e w1 ⟨rfl, hb⟩)
  go_ret
  exact ⟨rfl, hb.alloc hb.size _⟩
end Go.Proofs.Ytnclhgaikglbgaa
/- What must not be too long; JoinWords; PutAt. -/
namespace Go.Proofs.Ytnclhgaikglbgaa
open Go.RowKit

/-- A text of symbols, if it is short enough for a word. -/
def toldV (t : ByteArray) : Value := if t.size ≤ 60 then .tuple #[.string t, .int .i64 0] else .tuple #[.string ⟨#[]⟩, .int .i64 3]

theorem impl_told (t : ByteArray) (w : World) (ht : t.size ≤ 1048576) : Calls Try.prog 47 #[.string t] w fun e w' => e = .returned (toldV t) ∧ w = w' := by
  by_cases h : t.size ≤ 60
  · rw [toldV, if_pos h]
    go_enter Try.func47, Try.ntmps47
    go_wp2
    go_ret2
    exact ⟨rfl, rfl⟩
  · rw [toldV, if_neg h]
    have h' : 60 < t.size := by omega
    clear h
    go_enter Try.func47, Try.ntmps47
    go_wp2
    go_ret2
    exact ⟨rfl, rfl⟩
theorem toldV_form (t : ByteArray) : ∃ r code, toldV t = .tuple #[.string r, .int .i64 code] := by
  unfold toldV
  split
  · exact ⟨_, _, rfl⟩
  · exact ⟨_, _, rfl⟩

theorem impl_JoinWords_yes (u s : ByteArray) (w : World) (hu : IsW u) (hs : IsW s) :
    Calls Try.prog 28 #[.string u, .string s] w (TupPost (toldV (u ++ s)) w) := by
  have h1 := hu.1
  have h2 := hs.1
  obtain ⟨r, code, hr⟩ := toldV_form (u ++ s)
  have ht := fun w => impl_told (u ++ s) w (by rw [ByteArray.size_append]; omega)
  rw [hr] at ht ⊢
  have Ht := Lib.hid ht
  have Hu := Lib.hid hu
  have Hs := Lib.hid hs
  clear hu hs ht hr
  go_enter Try.func28, Try.ntmps28
  go_wp2_with fail
  refine (impl_valid_yes _ _ Hu.out).mono ?_
  rintro e w1 ⟨rfl, hb1⟩
  go_wp2_with fail
  refine (impl_valid_yes _ _ Hs.out).mono ?_
  rintro e w2 ⟨rfl, hb2⟩
  go_wp2_with fail
  refine (Ht.out _).mono ?_
  rintro e w' ⟨rfl, rfl⟩
  go_wp2
  go_ret2
  exact ⟨rfl, hb1.trans (hb2.mono hb1.size)⟩
theorem impl_JoinWords_no (u s : ByteArray) (w : World) (l1 : u.size ≤ 1048576) (l2 : s.size ≤ 1048576) (h : ¬ (IsW u ∧ IsW s)) :
    Calls Try.prog 28 #[.string u, .string s] w (TupPost (.tuple #[.string ⟨#[]⟩, .int .i64 1]) w) := by
  by_cases hu : IsW u
  · have hs : ¬ IsW s := fun hs => h ⟨hu, hs⟩
    have Hu := Lib.hid hu
    have Hs := Lib.hid hs
    clear hu hs h
    go_enter Try.func28, Try.ntmps28
    go_wp2_with fail
    refine (impl_valid_yes _ _ Hu.out).mono ?_
    rintro e w1 ⟨rfl, hb1⟩
    go_wp2_with fail
    refine (impl_valid_no _ _ l2 Hs.out).mono ?_
    rintro e w2 ⟨rfl, hb2⟩
    go_wp2
    go_ret2
    exact ⟨rfl, hb1.trans (hb2.mono hb1.size)⟩
  · have Hu := Lib.hid hu
    clear hu h
    go_enter Try.func28, Try.ntmps28
    go_wp2_with fail
    refine (impl_valid_no _ _ l1 Hu.out).mono ?_
    rintro e w1 ⟨rfl, hb1⟩
    go_wp2
    go_ret2
    exact ⟨rfl, hb1⟩
end Go.Proofs.Ytnclhgaikglbgaa
/- CompleteWord, of the model and of the program. -/
namespace Go.Proofs.Ytnclhgaikglbgaa
open Go.RowKit Go.Shelf

attribute [local go_sem] Oper.semAt_some

/-! Plain mathematics: what is put in front, and what behind. -/
theorem six_byte {b : UInt8} (h : 0 ≤ symNo (b.toNat : Int)) : b = 40 ∨ b = 91 ∨ b = 41 ∨ b = 93 ∨ b = 97 ∨ b = 98 := by
  rw [← byte_sym h]
  rcases six _ ⟨h, symNo_le _⟩ with e | e | e | e | e | e <;> (rw [e]; decide)
def turnX (b : UInt8) : UInt8 := byteOf (turnS (symNo b.toNat))
theorem other_turnX {b : UInt8} (h : 0 ≤ symNo (b.toNat : Int)) : otherB b.toNat = ((turnX b).toNat : Int) := by
  rcases six_byte h with rfl | rfl | rfl | rfl | rfl | rfl <;> rfl
theorem turnX_byte {n : Int} (h : 0 ≤ n ∧ n ≤ 5) : turnX (byteOf n) = byteOf (turnS n) ∧ callB ((byteOf n).toNat : Int) = callS n ∧ retB ((byteOf n).toNat : Int) = retS n ∧ 0 ≤ symNo ((byteOf n).toNat : Int) := by
  rcases six n h with rfl | rfl | rfl | rfl | rfl | rfl <;> decide
theorem turnS_in {n : Int} (h : 0 ≤ n ∧ n ≤ 5) : 0 ≤ turnS n ∧ turnS n ≤ 5 := by
  rcases six n h with rfl | rfl | rfl | rfl | rfl | rfl <;> decide

def frL (c : List UInt8) : List UInt8 := List.replicate (c.filter fun b => retB (b.toNat : Int)).length 40
def beL (c : List UInt8) : List UInt8 := (c.reverse.filter fun b => callB (b.toNat : Int)).map turnX
theorem frL_le (c : List UInt8) : (frL c).length ≤ c.length := by rw [frL, List.length_replicate]; exact List.length_filter_le _ _
theorem beL_le (c : List UInt8) : (beL c).length ≤ c.length := by
  rw [beL, List.length_map]; exact Nat.le_trans (List.length_filter_le _ _) (by simp)
theorem frL_yes {c : List UInt8} {b : UInt8} (h : retB (b.toNat : Int) = true) : frL (c ++ [b]) = 40 :: frL c := by
  simp [frL, List.filter_append, h, List.replicate_succ]
theorem frL_no {c : List UInt8} {b : UInt8} (h : retB (b.toNat : Int) = false) : frL (c ++ [b]) = frL c := by
  simp [frL, List.filter_append, h]
theorem frL_back {c : List UInt8} {b : UInt8} (h : retB (b.toNat : Int) = true) : frL (c ++ [b]) = frL c ++ [40] := by
  rw [frL_yes h, frL, ← List.replicate_succ, List.replicate_succ']
theorem beL_yes {c : List UInt8} {b : UInt8} (h : callB (b.toNat : Int) = true) : beL (b :: c) = beL c ++ [turnX b] := by
  simp [beL, List.filter_append, h]
theorem beL_no {c : List UInt8} {b : UInt8} (h : callB (b.toNat : Int) = false) : beL (b :: c) = beL c := by
  simp [beL, List.filter_append, h]
theorem beL_front {c : List UInt8} {b : UInt8} (h : callB (b.toNat : Int) = true) : beL (c ++ [b]) = turnX b :: beL c := by
  simp [beL, h]
theorem beL_same {c : List UInt8} {b : UInt8} (h : callB (b.toNat : Int) = false) : beL (c ++ [b]) = beL c := by
  simp [beL, h]
theorem size_of (t : ByteArray) (l : List UInt8) (h : t.data.toList = l) : t.size = l.length := by rw [← h, Array.length_toList]; rfl

theorem info_byte : (Try.prog.info? 5).map (fun i => (i.zero, i.size, i.bytes)) = some (some (.int .u8 0), 1, 1) := by kernel_rfl
theorem conv_one (w : World) (b : UInt8) :
    (convert 22 9 (.slice (some ⟨w.heap.size, 0, none⟩) 1 1)).run Try.prog (w.alloc (.cells #[.int .u8 (b.toNat : Int)] 5)) = .ok (.string ⟨#[b]⟩) (w.alloc (.cells #[.int .u8 (b.toNat : Int)] 5)) := by
  have := run_convert_bytes_back (P := Try.prog) (w.alloc (.cells #[.int .u8 (b.toNat : Int)] 5)) 22 9 5 ⟨w.heap.size, 0, none⟩ 1 [b] Try.underlying22 Try.underlying5 Try.underlying9 fun j hj => by
    obtain rfl : j = 0 := by simpa using hj
    simp [go_sem, Addr.add]
  simpa using this

def compL (l c : List UInt8) : List UInt8 := frL c ++ l ++ beL c

def byL (pre : List PS) : List UInt8 := pre.map fun x => byteOf x.1.2
def frP (pre : List PS) : List UInt8 := List.replicate (pre.filter fun x => !callS x.1.2).length 40
theorem frP_le (pre : List PS) : (frP pre).length ≤ pre.length := by rw [frP, List.length_replicate]; exact List.length_filter_le _ _
theorem frP_call {pre : List PS} {x : PS} (h : callS x.1.2 = true) : frP (pre ++ [x]) = frP pre := by simp [frP, List.filter_append, h]
theorem frP_ret {pre : List PS} {x : PS} (h : callS x.1.2 = false) : frP (pre ++ [x]) = frP pre ++ [40] := by
  simp [frP, List.filter_append, h, List.replicate_succ']
theorem beP_call {pre : List PS} {x : PS} (h : callS x.1.2 = true) : beL (byL (pre ++ [x])) = byteOf (turnS x.1.2) :: beL (byL pre) := by
  obtain ⟨h1, h2, _, _⟩ := turnX_byte x.2
  have e : byL (pre ++ [x]) = byL pre ++ [byteOf x.1.2] := by simp [byL]
  rw [e, beL_front (by rw [h2]; exact h), h1]
theorem beP_ret {pre : List PS} {x : PS} (h : callS x.1.2 = false) : beL (byL (pre ++ [x])) = beL (byL pre) := by
  obtain ⟨_, h2, _, _⟩ := turnX_byte x.2
  have e : byL (pre ++ [x]) = byL pre ++ [byteOf x.1.2] := by simp [byL]
  rw [e, beL_same (by rw [h2]; exact h)]
theorem byL_len (pre : List PS) : (byL pre).length = pre.length := by simp [byL]
theorem frP_eq (L : List PS) (h : ∀ x ∈ L, retS x.1.2 = !callS x.1.2) : frP L = frL (byL L) := by
  refine congrArg (fun n => List.replicate n (40 : UInt8)) ?_
  induction L with
  | nil => rfl
  | cons x L ih =>
    have h1 := h x (by simp)
    obtain ⟨_, _, h3, _⟩ := turnX_byte x.2
    have ih := ih fun y hy => h y (by simp [hy])
    have e : byL (x :: L) = byteOf x.1.2 :: byL L := rfl
    rw [e]
    cases hc : callS x.1.2 <;> rw [hc] at h1 <;> simp [hc, h3, h1, ih]
theorem pend_ret (l : List UInt8) (hall : AllSym l) (k : Nat) (hk : k ≤ l.length) : ∀ x ∈ pend (symL l) (prts (ksOf l)) k, retS x.1.2 = !callS x.1.2 := by
  induction k with
  | zero => intro x hx; simp [pend] at hx
  | succ k ih =>
    intro x hx
    have ih := ih (by omega)
    obtain ⟨b, hb⟩ : ∃ b, l[k]? = some b := ⟨_, List.getElem?_eq_getElem (by omega)⟩
    have hs := hall b (List.mem_of_getElem? hb)
    have hsy : (symL l)[k]?.getD 0 = symNo (b.toNat : Int) := by simp [symL, hb]
    have hkk := ksOf_at l k b hb
    obtain ⟨c1, c2, c3⟩ := call_kind hs
    by_cases hp : (prts (ksOf l))[k]? = some (-2)
    · have hk2 : kindS (symNo (b.toNat : Int)) ≠ 2 := fun e => by
        have := prts_at_inner (ksOf l) k 2 (by rw [hkk, e]) (by decide) (by decide)
        rw [hp] at this
        simp at this
      have c4 := c3 hk2
      rw [pend_yes hp (by rw [hsy]; exact ⟨hs, symNo_le _⟩), List.mem_append] at hx
      rcases hx with hx | hx
      · exact ih x hx
      · simp only [List.mem_singleton] at hx
        subst hx
        show retS ((symL l)[k]?.getD 0) = !callS ((symL l)[k]?.getD 0)
        rw [hsy, ← c1, ← c2]; exact c4
    · rw [pend_no hp] at hx
      exact ih x hx

set_option maxRecDepth 100000 in
set_option maxHeartbeats 2000000 in
theorem impl_complete (s r : ByteArray) (w : World) (h : IsW s) (hr : r.data.toList = compL s.data.toList (coreL s.data.toList (prts (ksOf s.data.toList)) s.size)) :
    Calls Try.prog 27 #[.string s] w (TupPost (toldV r) w) := by
  have hp := fun w => impl_read_yes s w h.1 h.2
  have h60 := h.1
  have hall := h.2
  obtain ⟨l, hl⟩ : ∃ l, l = s.data.toList := ⟨_, rfl⟩
  have hlen : l.length = s.size := by rw [hl]; simp
  rw [← hl] at hp hall hr
  have hcl : (coreL l (prts (ksOf l)) s.size).length ≤ s.size := coreL_len _ _ _
  have hrz : r.size ≤ 1048576 := by
    rw [size_of r _ hr, compL, List.length_append, List.length_append]
    have := frL_le (coreL l (prts (ksOf l)) s.size)
    have := beL_le (coreL l (prts (ksOf l)) s.size)
    omega
  obtain ⟨r0, code, hrv⟩ := toldV_form r
  have ht := fun w => impl_told r w hrz
  rw [hrv] at ht ⊢
  have Ht := Lib.hid ht
  have Hr := Lib.hid hr
  have Hp := Lib.hid hp
  have Hl := Lib.hid hl
  have Hlen := Lib.hid hlen
  have Hall := Lib.hid hall
  clear h hp hl hlen hall hr hrz hrv ht hcl
  refine (callsIn_wide (n := 4)).1 ?_
  refine callsIn_of_wp_marks Try.func27 rfl trivial ?_ rfl
  simp only [Try.ntmps27, List.size_toArray, List.length_cons, List.length_nil, Nat.reduceAdd, Nat.reduceSub, Array.replicate_succ, Array.replicate_zero, List.push_toArray, List.append_toArray, List.nil_append, List.cons_append]
  gi_wp2_with (first
    | (refine ⟨trivial, ?_⟩; gi_at_call 31; refine (callsIn_wide.2 (Hp.out _)).mono ?_; rintro e w1 ⟨M, rfl, hsy, hps, hb⟩)
    | (refine ⟨trivial, ?_⟩; gi_at_call 34; refine (pendingPlaces_in Fence.wide _ trivial rfl _ _ _).mono ?_; rintro e w' ⟨rfl, rfl⟩))
  have hb0 : Below w1.heap.size w1 ((((w1.alloc (.cells #[.slice (some ⟨w.heap.size + 1 + 1, 0, none⟩) s.size s.size, .slice (some ⟨M, 0, none⟩) s.size s.size] 50)).alloc (.cells #[.string ⟨#[]⟩] 9)).alloc (.cells #[.string ⟨#[]⟩] 9)).alloc (.cells #[.slice (some ⟨w.heap.size + 1 + 1, 0, none⟩) s.size s.size, .slice (some ⟨M, 0, none⟩) s.size s.size] 50)) := ((((Below.refl _ w1).alloc (Nat.le_refl _) _).alloc (by simp) _).alloc (by simp; omega) _).alloc (by simp; omega) _
  have hsyl : (symL l).length = s.size := by rw [symL_len, Hlen.out]
  have hpsl : (prts (ksOf l)).length = s.size := by rw [prts_len, ksOf_len, Hlen.out]
  have hA : NestAt ((((w1.alloc (.cells #[.slice (some ⟨w.heap.size + 1 + 1, 0, none⟩) s.size s.size, .slice (some ⟨M, 0, none⟩) s.size s.size] 50)).alloc (.cells #[.string ⟨#[]⟩] 9)).alloc (.cells #[.string ⟨#[]⟩] 9)).alloc (.cells #[.slice (some ⟨w.heap.size + 1 + 1, 0, none⟩) s.size s.size, .slice (some ⟨M, 0, none⟩) s.size s.size] 50)) (w1.heap.size + 1 + 1 + 1) (w.heap.size + 1 + 1) M s.size s.size s.size (symL l) (prts (ksOf l)) :=
    ⟨by simp [go_sem], by simp [go_sem], syms_cell (row_below hsy hb0), nums_cell (row_below hps hb0)⟩
  refine wpIn_rangeFunc_ownG rfl (by omega) (gf := 57) (lb := #[.pointer (some ⟨w1.heap.size + 1 + 1 + 1, 0, none⟩)]) rfl trivial (enters_of Try.func57 (by kernel_rfl) rfl)
    (pend_stops Fence.wide _ trivial rfl (by omega) (w1.heap.size + 1 + 1 + 1) w1.heap.size (w.heap.size + 1 + 1) M s.size s.size s.size (symL l) (prts (ksOf l)) h60 hsyl hpsl (hsy.lt _ rfl).2 (hps.lt _ rfl).2 (symL_ok Hall.out) _ (by simp; omega) (by simp) hA) kpB_t (kpB_b (by simp; omega) (by simp)) (Below.refl _ _) (fun _ => rfl)
    (fun pre W => ((∃ tf tb : ByteArray, (W.cell? ⟨w1.heap.size + 1, 0, none⟩ = some (.string tf) ∧ W.cell? ⟨w1.heap.size + 1 + 1, 0, none⟩ = some (.string tb)) ∧ tf.data.toList = frP pre ∧ tb.data.toList = beL (byL pre)) ∧ W.frozen? ⟨w1.heap.size + 1, 0, none⟩ = false ∧ W.frozen? ⟨w1.heap.size + 1 + 1, 0, none⟩ = false) ∧ Below w1.heap.size w1 W)
    (fun _ _ _ => False)
    (OwnFrom.and (Own.from (fun s A B row hs hg hr => by obtain ⟨⟨tf, tb, ⟨h1, h2⟩, h3⟩, h4, h5⟩ := hs; exact ⟨⟨tf, tb, ⟨cell_kept h1 hg hr, cell_kept h2 hg hr⟩, h3⟩, (frozen_kept h1 hg hr).trans h4, (frozen_kept h2 hg hr).trans h5⟩) _) (ownFrom_below (Nat.le_refl _) (by simp; omega)))
    (fun _ _ _ _ _ hs _ _ => hs)
    ⟨⟨⟨⟨#[]⟩, ⟨#[]⟩, ⟨by simp [go_sem], by simp [go_sem]⟩, rfl, rfl⟩, by simp [go_sem], by simp [go_sem]⟩, hb0⟩
    (fun x => { tmps := #[.string s, undef, .string ⟨#[]⟩, .int .i64 0, .pointer (some ⟨w1.heap.size, 0, none⟩), .bool true, .pointer (some ⟨w1.heap.size + 1, 0, none⟩), .pointer (some ⟨w1.heap.size + 1 + 1, 0, none⟩), undef, .int .u8 x.1.2, .tuple #[.agg #[.slice (some ⟨w.heap.size + 1 + 1, 0, none⟩) s.size s.size, .slice (some ⟨M, 0, none⟩) s.size s.size], .bool true], .string s, .tuple #[.agg #[.slice (some ⟨w.heap.size + 1 + 1, 0, none⟩) s.size s.size, .slice (some ⟨M, 0, none⟩) s.size s.size], .bool true], .agg #[.slice (some ⟨w.heap.size + 1 + 1, 0, none⟩) s.size s.size, .slice (some ⟨M, 0, none⟩) s.size s.size], .bool true, .bool true, .bool false, .agg #[.slice (some ⟨w.heap.size + 1 + 1, 0, none⟩) s.size s.size, .slice (some ⟨M, 0, none⟩) s.size s.size], .func (.func 57) #[] #[.pointer (some ⟨w1.heap.size + 1 + 1 + 1, 0, none⟩)], .int .i64 x.1.1, .int .u8 x.1.2, undef, undef, undef, undef, undef, undef, undef, undef, undef, undef, undef, undef, undef, undef, undef, undef, undef, undef], defers := [] }) ?assign ?body ?done ?stop
  case assign =>
    intro l x W K hK
    gi_wp2
    exact hK
  case body =>
    rintro l' pre x W ⟨⟨⟨tf, tb, ⟨hc1, hc2⟩, htf, htb⟩, hf1, hf2⟩, hB⟩ hlt
    have hz1 : tf.size ≤ 60 := by rw [size_of _ _ htf]; have := frP_le pre; omega
    have hz2 : tb.size ≤ 60 := by rw [size_of _ _ htb]; have := beL_le (byL pre); rw [byL_len] at this; omega
    have Htf := Lib.hid htf
    have Htb := Lib.hid htb
    clear htf htb hlt
    have hx := x.2
    have hmx : Try.prog.follows .mixedOrders = true := by kernel_rfl
    cases hcs : callS x.1.2 with
    | true =>
      gi_wp2_with (first
        | (gi_at_call 35; refine (CallsIn.inRound l' (callsIn_wide.2 (impl_isCall _ _))).mono ?_; rintro e w' ⟨rfl, rfl⟩; rw [hcs])
        | (refine ⟨trivial, ?_⟩; gi_at_call 35; refine (CallsIn.inRound l' (callsIn_wide.2 (impl_isCall _ _))).mono ?_; rintro e w' ⟨rfl, rfl⟩; rw [hcs]))
      gi_region_with_o (first
        | (gi_at_call 36; refine (CallsIn.inRound l' (callsIn_wide.2 (impl_turned _ _ hx))).mono ?_; rintro e w' ⟨rfl, rfl⟩)
        | (refine ⟨trivial, ?_⟩; gi_at_call 36; refine (CallsIn.inRound l' (callsIn_wide.2 (impl_turned _ _ hx))).mono ?_; rintro e w' ⟨rfl, rfl⟩)
        | (gi_at_call 37; refine (CallsIn.inRound l' (callsIn_wide.2 (impl_text _ _ (turnS_in hx)))).mono ?_; rintro e w' ⟨rfl, rfl⟩)
        | (refine ⟨trivial, ?_⟩; gi_at_call 37; refine (CallsIn.inRound l' (callsIn_wide.2 (impl_text _ _ (turnS_in hx)))).mono ?_; rintro e w' ⟨rfl, rfl⟩))
      all_goals gi_wp2
      all_goals
        refine ⟨((KeepsOthers.setCell _ _ _).trans (KeepsOthers.drew _)).from _, ⟨((Below.refl _ _).setCell (p := ⟨w1.heap.size + 1 + 1, 0, none⟩) (by simp; omega) _).drew, Below.heap_setCell _ _ _ _ (by simp)⟩, ⟨⟨⟨tf, _, ⟨(World.cell?_setCell_other _ _ _ _ (by simp)).trans hc1, World.cell?_setCell_same' _ _ _ (by rw [hc2]; rfl)⟩, ?_, ?_⟩, ?_, ?_⟩, (hB.setCell (p := ⟨w1.heap.size + 1 + 1, 0, none⟩) (by simp; omega) _).drew⟩⟩
        · rw [Htf.out, frP_call hcs]
        · rw [ByteArray.data_append, Array.toList_append, Htb.out, beP_call hcs]; rfl
        · rw [frozen_drew_own, World.frozen?_setCell]; exact hf1
        · rw [frozen_drew_own, World.frozen?_setCell]; exact hf2
    | false =>
      gi_wp2_with (first
        | (gi_at_call 35; refine (CallsIn.inRound l' (callsIn_wide.2 (impl_isCall _ _))).mono ?_; rintro e w' ⟨rfl, rfl⟩; rw [hcs])
        | (refine ⟨trivial, ?_⟩; gi_at_call 35; refine (CallsIn.inRound l' (callsIn_wide.2 (impl_isCall _ _))).mono ?_; rintro e w' ⟨rfl, rfl⟩; rw [hcs]))
      gi_region_with_o (first
        | (gi_at_call 37; refine (CallsIn.inRound l' (callsIn_wide.2 (impl_text 0 _ (by decide)))).mono ?_; rintro e w' ⟨rfl, rfl⟩)
        | (refine ⟨trivial, ?_⟩; gi_at_call 37; refine (CallsIn.inRound l' (callsIn_wide.2 (impl_text 0 _ (by decide)))).mono ?_; rintro e w' ⟨rfl, rfl⟩))
      all_goals gi_wp2
      all_goals
        refine ⟨((KeepsOthers.setCell _ _ _).trans (KeepsOthers.drew _)).from _, ⟨((Below.refl _ _).setCell (p := ⟨w1.heap.size + 1, 0, none⟩) (by simp) _).drew, Below.heap_setCell _ _ _ _ (by simp; omega)⟩, ⟨⟨⟨_, tb, ⟨World.cell?_setCell_same' _ _ _ (by rw [hc1]; rfl), (World.cell?_setCell_other _ _ _ _ (by simp)).trans hc2⟩, ?_, ?_⟩, ?_, ?_⟩, (hB.setCell (p := ⟨w1.heap.size + 1, 0, none⟩) (by simp) _).drew⟩⟩
        · rw [ByteArray.data_append, Array.toList_append, Htf.out, frP_ret hcs]; rfl
        · rw [Htb.out, beP_ret hcs]
        · rw [frozen_drew_own, World.frozen?_setCell]; exact hf1
        · rw [frozen_drew_own, World.frozen?_setCell]; exact hf2
  case done =>
    rintro D ys W hD rfl ⟨⟨⟨tf, tb, ⟨hc1, hc2⟩, htf, htb⟩, hf1, hf2⟩, hB⟩ hK
    have hpl : (pend (symL l) (prts (ksOf l)) s.size).length ≤ s.size := pend_len _ _ _
    have hz1 : tf.size ≤ 60 := by rw [size_of _ _ htf]; have := frP_le (pend (symL l) (prts (ksOf l)) s.size); omega
    have hz2 : tb.size ≤ 60 := by rw [size_of _ _ htb]; have := beL_le (byL (pend (symL l) (prts (ksOf l)) s.size)); rw [byL_len] at this; omega
    rw [frP_eq _ (pend_ret l Hall.out s.size (by rw [Hlen.out]; exact Nat.le_refl _))] at htf
    have e2 : r = tf ++ s ++ tb := by
      have h1 : r.data.toList = (tf ++ s ++ tb).data.toList := by
        rw [Hr.out, compL, ByteArray.data_append, Array.toList_append, ByteArray.data_append, Array.toList_append, htf, htb, ← Hl.out]; rfl
      have h3 : r.data = (tf ++ s ++ tb).data := Array.toList_inj.1 h1
      exact ByteArray.ext h3
    subst e2
    clear htf htb hpl
    gi_wp2_with (refine ⟨trivial, ?_⟩; gi_at_call 47; refine (callsIn_wide.2 (Ht.out _)).mono ?_; rintro e w' ⟨rfl, rfl⟩)
    refine ⟨by simp, .inl ⟨_, _, rfl, run_takeDeferred hK, ?_⟩⟩
    exact ⟨_, results_tmp2 rfl _ _ _, rfl, (hb.trans (hB.mono hb.size)).trans (belowK_b (w := w) (Nat.le_refl _) W D _ _ (by have := hb.size; simp at hD; omega) hK rfl rfl)⟩
  case stop =>
    rintro D c pre W _ _ h _
    exact h.elim

theorem impl_complete_no (s : ByteArray) (w : World) (hs : s.size ≤ 1048576) (h : ¬ IsW s) :
    Calls Try.prog 27 #[.string s] w (TupPost (.tuple #[.string ⟨#[]⟩, .int .i64 1]) w) := by
  have H := Lib.hid h
  clear h
  go_enter Try.func27, Try.ntmps27
  go_wp2_with (go_at_call 31; refine (impl_read_no _ _ hs H.out).mono ?_; rintro e w1 ⟨rfl, hb⟩)
  go_ret2
  exact ⟨rfl, hb.alloc hb.size _⟩

end Go.Proofs.Ytnclhgaikglbgaa
