/- Rows of texts; the laws' own functions on them. -/
import Derived.Test.YtadifihblaalpaaBox
import Derived.Test.YtadifihblaalpaaConv
import Derived.Test.YtadifihblaalpaaRows3
import Derived.Test.YtadifihblaalpaaText
namespace Go.Proofs.Ytadifihblaalpaa
open Go.RowKit Go.ChangeShapes Go.WideShapes Go.Deep
set_option linter.unusedVariables false

abbrev StrE (base : Nat) : EP (List ByteArray) := RowE base 9 1 fun x => [.string x]
theorem str_ok (base : Nat) : EP.Ok base (StrE base) := RowE.ok _ _ _ _
theorem StrE.cell' {base g n c : Nat} {w : World} {xs : List ByteArray} {bs : List Nat} (h : StrE base w (.slice (some ⟨g, 0, none⟩) n c) xs bs) {j : Nat} {x : ByteArray} (hx : xs[j]? = some x) :
    w.cell? ⟨g, j, none⟩ = some (.string x) := by
  have := RowE.cell h (fun _ => rfl) (i := 0) hx rfl
  simpa using this
theorem strs_base {b b' : Nat} (hb : b' ≤ b) (w : World) (v : Value) (x : List ByteArray) (bs : List Nat) (h : StrE b w v x bs) : StrE b' w v x bs := ⟨row_base h.1 hb, h.2⟩
abbrev StrR0 : RP (List ByteArray) := RowR 1 fun x => [.string x]
theorem strs_r0 : RP.Ok StrR0 := RowR.ok _ _
def WfT (xs : List ByteArray) : Prop := ∀ y ∈ xs, y.size ≤ maxLen
/-- Texts that came in. -/
def StrR : RP (List ByteArray) := fun w v xs => StrR0 w v xs ∧ WfT xs
theorem strs_r : RP.Ok StrR where
  later := fun h hb => ⟨strs_r0.later h.1 hb, h.2⟩
def lenT (xs : List ByteArray) : Nat := xs.length
def szB (x : ByteArray) : Nat := x.size
def cntT (xs : List ByteArray) : Nat := xs.length + szL szB xs
theorem bdt_of {xs : List ByteArray} (h : cntT xs ≤ 1048576) : Bd1 xs := by unfold cntT at h; unfold Bd1; omega
theorem StrE.strs {base : Nat} {w : World} {A : Option Addr} {n c : Nat} {xs : List ByteArray} {bs : List Nat} (h : StrE base w (.slice A n c) xs bs) (hn : xs.length = n) : Strs w A n xs := by
  obtain ⟨h, _⟩ := h
  rw [hn] at h
  refine Strs.of_row (base := base) (c := c) ?_
  have e : xs.flatMap (fun x => [Value.string x]) = strsV xs := by
    unfold strsV
    clear h hn
    induction xs with
    | nil => rfl
    | cons x xs ih => rw [List.flatMap_cons, List.map_cons, ih]; rfl
  rw [e] at h
  exact h
theorem eq_strs {base base' : Nat} {v v' : Value} {xs : List ByteArray} {bs bs' : List Nat} (w : World) (hn : Bd1 xs) (ha : StrE base w v xs bs) (hb : StrE base' w v' xs bs') :
    Calls Try.prog 44 #[v, v'] w (SeenPost (.bool true) w) := by
  obtain ⟨A, ca, rfl⟩ := ha.slice
  obtain ⟨B, cb, rfl⟩ := hb.slice
  refine (eq_yes_str A B _ ca cb xs w hn (ha.strs rfl) (hb.strs rfl)).mono ?_
  rintro e w' ⟨rfl, m, rfl⟩
  exact ⟨rfl, below_drewN (Below.refl _ _) m⟩

set_option maxHeartbeats 1600000 in
set_option maxRecDepth 100000 in
theorem to_strs {v : Value} {xs : List ByteArray} (w : World) (hn : Bd1 xs) (ha : StrR w v xs) : Calls Try.prog 37 #[v] w (NewPost StrE xs w) := by
  obtain ⟨⟨A, ca, rfl, _, hA⟩, _⟩ := ha
  unfold Bd1 at hn
  obtain ⟨n, hn'⟩ : ∃ n, n = xs.length := ⟨_, rfl⟩
  have Hn := Lib.hid hn'
  have HA := Lib.hid hA
  rw [← hn'] at hn ⊢
  have hmk := run_make_row' (P := Try.prog) 34 9 (.string ⟨#[]⟩) 16 Try.underlying34 info_str rfl .i64 .i64 n (by omega) (by omega)
  have hst : StrE w.heap.size (w.alloc (.cells (madeCells #[.string ⟨#[]⟩] n) 9)) (.slice (some ⟨w.heap.size, 0, none⟩) n n) (List.replicate n (⟨#[]⟩ : ByteArray)) [w.heap.size] := rowE_made1 w 9 (fun x => Value.string x) ⟨#[]⟩ n (by unfold maxLen; omega)
  have Hst := Lib.hid hst
  clear hn' hA hst
  go_enter Try.func37, Try.ntmps37
  go_wp2
  go_loopw [4] (fun i wr => ∃ j : Nat, j ≤ n ∧ i = .int .i64 j ∧ StrE w.heap.size wr (.slice (some ⟨w.heap.size, 0, none⟩) n n) (front xs (List.replicate n (⟨#[]⟩ : ByteArray)) j) [w.heap.size] ∧ Below w.heap.size w wr) (fun i _ => n - (intOf i).toNat)
  case atStart => exact ⟨0, Nat.zero_le _, rfl, by rw [front_zero]; exact Hst.out, (Below.refl _ _).alloc (Nat.le_refl _) _⟩
  case round =>
    obtain ⟨j, hj, rfl, hE, hB⟩ := hrel
    have hrl : xs.length = (List.replicate n (⟨#[]⟩ : ByteArray)).length := by rw [List.length_replicate]; exact Hn.out.symm
    by_cases hlt : j < n
    · have hjx : j < xs.length := by rw [← Hn.out]; exact hlt
      obtain ⟨x, hx⟩ : ∃ x, xs[j]? = some x := ⟨_, List.getElem?_eq_getElem hjx⟩
      obtain ⟨y, hy⟩ : ∃ y, (front xs (List.replicate n (⟨#[]⟩ : ByteArray)) j)[j]? = some y := ⟨_, List.getElem?_eq_getElem (by rw [front_len _ _ hrl, ← hrl]; exact hjx)⟩
      obtain ⟨A', rfl, hl, hc0⟩ := HA.out j x 0 _ hx rfl
      rw [add_zero', Nat.mul_one] at hc0
      have hc := (hB.cell (p := A'.add j) (by rw [add_block]; exact hl)).trans hc0
      have hcy := StrE.cell' hE hy
      have hf := RowE.frozen hE j
      have hp := RowE.put1 (f := fun x => Value.string x) hE j x
      rw [front_set _ _ hrl hx] at hp
      have hB2 := hB.setCell (p := ⟨w.heap.size, j, none⟩) (Nat.le_refl _) (Value.string x)
      clear hjx hx hy hc0 hrl
      go_wp2
      go_roundw
      case rel => exact ⟨j + 1, by omega, by go_num, hp.1, hB2⟩
      case measure => simp [intOf]; omega
    · have e : j = n := by omega
      subst e
      rw [show j = (List.replicate j (⟨#[]⟩ : ByteArray)).length from by rw [List.length_replicate]] at hE
      have hE2 := front_all _ _ hrl
      clear hrl
      go_wp2
      go_ret
      rw [List.length_replicate] at hE hE2
      rw [hE2] at hE
      exact ⟨_, _, rfl, hE, hB⟩

set_option maxHeartbeats 1600000 in
set_option maxRecDepth 100000 in
theorem sz_strs {v : Value} {xs : List ByteArray} (left : Nat) (w : World) (hl : left ≤ 1048576) (ha : StrR w v xs) : Calls Try.prog 34 #[v, .int .i64 (left : Int)] w fun e w' => e = .returned (.int .i64 (dec left (cntT xs))) ∧ Below w.heap.size w w' := by
  obtain ⟨⟨A, ca, rfl, hm, hA⟩, hwf⟩ := ha
  unfold maxLen at hm
  obtain ⟨n, hn'⟩ : ∃ n, n = xs.length := ⟨_, rfl⟩
  obtain ⟨t, ht⟩ : ∃ t, t = cntT xs := ⟨_, rfl⟩
  have htn : t = n + szL szB xs := by rw [ht, hn']; rfl
  have Hn := Lib.hid hn'
  have HA := Lib.hid hA
  have Ht := Lib.hid htn
  have Hwf := Lib.hid hwf
  rw [← hn'] at hm ⊢
  rw [← ht]
  clear hn' hA ht htn hwf
  by_cases h0 : n ≤ left
  · obtain ⟨q0, hq0⟩ : ∃ q0, q0 = left - n := ⟨_, rfl⟩
    have hq1 : q0 + n = left := by omega
    have hq2 : ((left : Int) - (n : Int)) = (q0 : Int) := by omega
    have hq3 : q0 ≤ 1048576 := by omega
    clear hq0
    have Hq1 := Lib.hid hq1
    have Hq2 := Lib.hid hq2
    clear hq1 hq2
    go_enter Try.func34, Try.ntmps34
    go_wp2
    go_loopw [1, 5] (fun l i wr => ∃ j q : Nat, j ≤ n ∧ i = .int .i64 j ∧ l = .int .i64 (q : Int) ∧ q ≤ 1048576 ∧ Hid (q + n + szL szB (xs.take j) = left) ∧ Below w.heap.size w wr) (fun _ i _ => n - (intOf i).toNat)
    case atStart => exact ⟨0, q0, Nat.zero_le _, rfl, by rw [Hq2.out], hq3, by show _ = _; rw [← Hq1.out]; simp [szL], Below.refl _ _⟩
    case round =>
      obtain ⟨j, q, hj, rfl, rfl, hq, hsum, hB⟩ := hrel
      have hsz := hB.size
      by_cases hlt : j < n
      · have hjx : j < xs.length := by rw [← Hn.out]; exact hlt
        obtain ⟨x, hx⟩ : ∃ x, xs[j]? = some x := ⟨_, List.getElem?_eq_getElem hjx⟩
        obtain ⟨A', rfl, hbl, hc0⟩ := HA.out j x 0 _ hx rfl
        rw [add_zero', Nat.mul_one] at hc0
        have hc := (hB.cell (p := A'.add j) (by rw [add_block]; exact hbl)).trans hc0
        have hss := szL_take_succ (sz := szB) hx
        have hle := szL_take_le (sz := szB) xs (j + 1)
        have hxm := Hwf.out x (List.mem_of_getElem? hx)
        obtain ⟨y, hy⟩ : ∃ y, y = x.size := ⟨_, rfl⟩
        rw [show szB x = y from hy.symm] at hss
        have hxm2 : x.size ≤ 9223372036854775807 := by unfold maxLen at hxm; omega
        have Hss := Lib.hid hss
        have Hle := Lib.hid hle
        clear hss hle hjx hx hc0 hxm
        by_cases hyq : y ≤ q
        · obtain ⟨q', hq'⟩ : ∃ q', q' = q - y := ⟨_, rfl⟩
          have hq2 : q' + y = q := by omega
          have hsb : ((q : Int) - (x.size : Int)) = (q' : Int) := by omega
          have Hq := Lib.hid (And.intro hq2 hsb)
          have hle2 : x.size ≤ q := by omega
          clear hq' hq2 hsb hyq
          have Hy := Lib.hid hy
          clear hy
          go_wp2
          go_roundw
          case rel => exact ⟨j + 1, q', by omega, by go_num, by first | rfl | (rw [Hq.out.2]) | (rw [← Hq.out.2]), by have := Hq.out.1; omega, by show _ = _; have := hsum.out; have := Hss.out; have := Hq.out.1; omega, hB⟩
          case measure => simp [intOf]; omega
        · have hno : ¬ t ≤ left := by
            have := hsum.out
            have := Hss.out
            have := Hle.out
            have := Ht.out
            omega
          have hd := Lib.hid (dec_no hno)
          have hlt2 : q < x.size := by omega
          clear hyq hno hy
          go_wp2
          go_ret
          exact ⟨by rw [hd.out]; rfl, hB⟩
      · have e : j = n := by omega
        subst e
        have hall : q + t = left := by
          have h1 := hsum.out
          rw [Hn.out, List.take_length] at h1
          have := Ht.out
          have := Hn.out
          omega
        have hv : ((left - t : Nat) : Int) = (q : Int) := by omega
        have hd := Lib.hid ((dec_yes (left := left) (n := t) (by omega)).trans hv)
        clear hall hv hsum
        go_wp2
        go_ret
        exact ⟨by rw [hd.out]; rfl, hB⟩
  · have h' : left < n := by omega
    have hno : ¬ t ≤ left := by have := Ht.out; omega
    rw [dec_no hno]
    clear h0 hno
    go_enter Try.func34, Try.ntmps34
    go_wp2
    go_ret
    exact ⟨rfl, Below.refl _ _⟩

theorem cells_tstr : Try.prog.cellsOf 9 = 1 := by kernel_rfl
section
variable {H : Type} {enc : TypeId × Value → H} {w : World} {held : Bool}
theorem read_tstr {n : Nat} {cs : List Value} {x : DataW H × List MemPlace} (h : DataW.trod enc Try.prog w 0 (fun _ => true) held n 9 cs = some x) : ∃ y : ByteArray, cs = [.string y] ∧ y.size ≤ maxLen := by
  obtain ⟨y, rfl, _, hw⟩ := DataW.trod_string Try.underlying9 h
  exact ⟨y, rfl, hw⟩
theorem read_strs {n : Nat} {v : Value} {x : DataW H × List MemPlace} (h : DataW.trod enc Try.prog w 0 (fun _ => true) held n 34 [v] = some x) : ∃ y, StrR w v y ∧ WfT y := by
  obtain ⟨y, h1, h2⟩ := open_row (en := fun x : ByteArray => [.string x]) (wf := fun y => y.size ≤ maxLen) Try.underlying34 cells_tstr (fun _ _ _ h => read_tstr h) h
  exact ⟨y, ⟨h1, h2⟩, h2⟩
end
end Go.Proofs.Ytadifihblaalpaa
