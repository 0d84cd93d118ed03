/- The program's check of a rewriter: the closures, the rows, the tables. -/
import Derived.Test.YtmkamodmnplclaaVaI
import Derived.Test.YtmkamodmnplclaaRwAt
namespace Go.Proofs.Ytmkamodmnplclaa
open Go.RowKit
set_option linter.unusedVariables false

set_option maxHeartbeats 6400000 in
set_option maxRecDepth 100000 in
theorem op_isOf {A0 : Option Addr} {n k0 : Nat} (x y : Int) (t : ByteArray) (m : Nat) (st : Int) (z1 z2 : Value) (w : World) :
    Calls Try.prog 178 #[.agg #[.int .i64 x, .int .i64 y, .string t], .agg #[.int .i64 (m : Int), .int .i64 st, .slice A0 n k0, z1, z2]] w (TupPost (.bool (opB n m (x, y, t))) w) := by
  have hB1 := (Below.refl w.heap.size w).alloc (Nat.le_refl _) (.cells #[.int .i64 x, .int .i64 y, .string t] 75)
  have hB2 := Lib.hid (hB1.alloc (by simp) (.cells #[.int .i64 (m : Int), .int .i64 st, .slice A0 n k0, z1, z2] 36))
  have x2 := Bx.new (w.alloc (.cells #[.int .i64 x, .int .i64 y, .string t] 75)) 36 #[.int .i64 (m : Int), .int .i64 st, .slice A0 n k0, z1, z2]
  rw [World.size_alloc] at x2
  have HX := Lib.hid x2
  have HS := Lib.hid (fun W => om_isOf (A0 := A0) (n := n) (k0 := k0) x t (m : Int) st z1 z2 W)
  have hop : opB n m (x, y, t) = (omB n (x, t) && inB 0 ((m : Int) - 1) y) := by
    simp only [opB, omB]
    cases inB 0 ((n : Int) - 1) x <;> cases inB 0 ((m : Int) - 1) y <;> cases outB t <;> rfl
  rw [hop]
  have H2 := Lib.hid (fun W => impl_below y m W)
  clear hB1 x2 hop
  cases h : omB n (x, t) with
  | false =>
    rw [h] at HS
    clear h
    go_enter Try.func178, Try.ntmps178
    go_wp2_with fail
    refine (HS.out _).mono ?_
    rintro e w1 ⟨rfl, hb1⟩
    go_wp2
    go_ret
    exact ⟨rfl, hB2.out.trans (hb1.mono hB2.out.size)⟩
  | true =>
    rw [h] at HS
    clear h
    generalize inB 0 ((m : Int) - 1) y = r at *
    go_enter Try.func178, Try.ntmps178
    go_wp2_with fail
    refine (HS.out _).mono ?_
    rintro e w1 ⟨rfl, hb1⟩
    obtain ⟨d0, d1, d2, d3, d4, dl⟩ := id (HX.out.later hb1).all5
    have y1 := Bx.new w 75 #[.int .i64 x, .int .i64 y, .string t]
    obtain ⟨c0, c1, c2, cl⟩ := id ((y1.alloc (.cells #[.int .i64 (m : Int), .int .i64 st, .slice A0 n k0, z1, z2] 36)).later hb1).all3
    clear y1
    go_wp2_with fail
    refine (H2.out _).mono ?_
    rintro e w' ⟨rfl, rfl⟩
    go_wp2
    go_ret
    exact ⟨rfl, hB2.out.trans (hb1.mono hB2.out.size)⟩
set_option maxHeartbeats 6400000 in
set_option maxRecDepth 100000 in
theorem strange_om {B n m k0 : Nat} {A0 : Option Addr} {st : Int} {z1 z2 : Value} (x : Int × ByteArray) (w : World) (hB : Bx w B 36 #[.int .i64 (m : Int), .int .i64 st, .slice A0 n k0, z1, z2]) :
    Calls Try.prog 120 (#[.agg #[.int .i64 x.1, .string x.2]] ++ #[.pointer (some ⟨B, 0, none⟩)]) w (TupPost (.bool (!omB n x)) w) := by
  obtain ⟨x0, x1⟩ := x
  have HS := Lib.hid (fun W => om_isOf x0 x1 (m : Int) st z1 z2 W (A0 := A0) (n := n) (k0 := k0))
  have hA := (Below.refl w.heap.size w).alloc (Nat.le_refl _) (.cells #[.int .i64 x0, .string x1] 78)
  obtain ⟨d0, d1, d2, d3, d4, dl⟩ := id (hB.alloc (.cells #[.int .i64 x0, .string x1] 78)).all5
  have HA := Lib.hid hA
  generalize omB n (x0, x1) = r at *
  clear hA hB
  change Calls Try.prog _ #[.agg #[.int .i64 x0, .string x1], .pointer (some ⟨B, 0, none⟩)] w _
  go_enter Try.func120, Try.ntmps120
  go_wp2_with fail
  refine (HS.out _).mono ?_
  rintro e w1 ⟨rfl, hb1⟩
  go_wp2
  go_ret
  exact ⟨rfl, HA.out.trans (hb1.mono HA.out.size)⟩
set_option maxHeartbeats 6400000 in
set_option maxRecDepth 100000 in
theorem idx_om0 {base : Nat} {v : Value} {xs : List (Int × ByteArray)} {bs : List Nat} (w : World) (p : Int × ByteArray → Bool) (f : FuncId) (cap : Array Value) (hcf : ∀ args w, (callFunc f args).run Try.prog w = .ok (.enter f args) w) (hn : xs.length ≤ 1048576) (ha : OmE base w v xs bs)
    (hf : ∀ x ∈ xs, ∀ W, Below w.heap.size w W → Calls Try.prog f (#[.agg #[.int .i64 x.1, .string x.2]] ++ cap) W (TupPost (.bool (!p x)) W)) :
    Calls Try.prog 143 #[v, .func (.func f) #[] cap] w (SeenPost (.int .i64 (badP p xs)) w) := by
  obtain ⟨A, ca, rfl⟩ := RowE.slice ha
  obtain ⟨n, hn'⟩ : ∃ n, n = xs.length := ⟨_, rfl⟩
  have Hn := Lib.hid hn'
  rw [← hn'] at ha hn ⊢
  have Hcf := Lib.hid hcf
  have Hf := Lib.hid hf
  clear hn' hcf hf
  go_enter Try.func143, Try.ntmps143
  go_wp2
  go_loopw [8] (fun i wr => ∃ k : Nat, k ≤ n ∧ i = .int .i64 k ∧ Hid ((xs.take k).all p = true) ∧ Below w.heap.size w wr) (fun i _ => n - (intOf i).toNat)
  case atStart => exact ⟨0, Nat.zero_le _, rfl, rfl, Below.refl _ _⟩
  case round =>
    obtain ⟨k, hk, rfl, hA, hB⟩ := hrel
    have hs := hB.size
    by_cases hlt : k < n
    · have hkx : k < xs.length := by rw [← Hn.out]; exact hlt
      obtain ⟨x, hx⟩ : ∃ x, xs[k]? = some x := ⟨_, List.getElem?_eq_getElem hkx⟩
      obtain ⟨g, rfl, hg, _⟩ := RowE.head ha hkx
      have hc1 := (hB.cell (p := ⟨g, k * 2, none⟩) hg).trans (OmE.cell' ha hx).1
      have hc2 := (hB.cell (p := ⟨g, k * 2 + 1, none⟩) hg).trans (OmE.cell' ha hx).2
      have ht := Hf.out x (List.mem_of_getElem? hx) wr hB
      have hcf := Hcf.out
      cases hb : p x with
      | true =>
        rw [hb] at ht
        have Ht := Lib.hid ht
        have hnx := Lib.hid (all_take hx hA.out hb)
        clear hkx hx hA ht hb
        obtain ⟨x0, x1⟩ := x
        dsimp only at hc1 hc2 Ht
        go_wp2_with fail
        clear hcf
        refine Ht.out.mono ?_
        rintro e w2 ⟨rfl, hb2⟩
        go_wp2
        go_roundw
        case rel => exact ⟨k + 1, by omega, by go_num, hnx, hB.trans (hb2.mono hs)⟩
        case measure => simp [intOf]; omega
      | false =>
        rw [hb] at ht
        have Ht := Lib.hid ht
        have hno := Lib.hid (badP_at hx hA.out hb)
        clear hkx hx hA ht hb
        obtain ⟨x0, x1⟩ := x
        dsimp only at hc1 hc2 Ht
        go_wp2_with fail
        clear hcf
        refine Ht.out.mono ?_
        rintro e w2 ⟨rfl, hb2⟩
        go_wp2
        go_ret
        exact ⟨by rw [hno.out]; rfl, hB.trans (hb2.mono hs)⟩
    · have e : k = n := by omega
      subst e
      have hno := Lib.hid (show badP p xs = -1 by
        have h1 := hA.out
        rw [Hn.out, List.take_length] at h1
        exact badP_none h1)
      clear hA
      go_wp2
      go_ret
      exact ⟨by rw [hno.out]; rfl, hB⟩
theorem cont_om0 {base : Nat} {v : Value} {xs : List (Int × ByteArray)} {bs : List Nat} (w : World) (p : Int × ByteArray → Bool) (f : FuncId) (cap : Array Value) (hcf : ∀ args w, (callFunc f args).run Try.prog w = .ok (.enter f args) w) (hn : xs.length ≤ 1048576) (ha : OmE base w v xs bs)
    (hf : ∀ x ∈ xs, ∀ W, Below w.heap.size w W → Calls Try.prog f (#[.agg #[.int .i64 x.1, .string x.2]] ++ cap) W (TupPost (.bool (!p x)) W)) :
    Calls Try.prog 122 #[v, .func (.func f) #[] cap] w (SeenPost (.bool (!xs.all p)) w) := by
  have H := Lib.hid (idx_om0 w p f cap hcf hn ha hf)
  rw [← badP_all]
  generalize badP p xs = r at *
  clear hn ha hcf hf
  go_enter Try.func122, Try.ntmps122
  go_wp2_with fail
  refine H.out.mono ?_
  rintro e w2 ⟨rfl, hb2⟩
  go_wp2
  go_ret
  exact ⟨rfl, hb2⟩
set_option maxHeartbeats 6400000 in
set_option maxRecDepth 100000 in
theorem idx_om1 {base : Nat} {v : Value} {xs : List (List (Int × ByteArray))} {bs : List Nat} (w : World) (p : List (Int × ByteArray) → Bool) (f : FuncId) (cap : Array Value) (hcf : ∀ args w, (callFunc f args).run Try.prog w = .ok (.enter f args) w) (hn : xs.length ≤ 1048576) (ha : Om2E base w v xs bs)
    (hf : ∀ x ∈ xs, ∀ W u cs, Below w.heap.size w W → OmE base W u x cs → Calls Try.prog f (#[u] ++ cap) W (TupPost (.bool (!p x)) W)) :
    Calls Try.prog 144 #[v, .func (.func f) #[] cap] w (SeenPost (.int .i64 (badP p xs)) w) := by
  obtain ⟨A, ca, rfl⟩ := ManyE.slice ha
  obtain ⟨n, hn'⟩ : ∃ n, n = xs.length := ⟨_, rfl⟩
  have Hn := Lib.hid hn'
  rw [← hn'] at ha hn ⊢
  have Hcf := Lib.hid hcf
  have Hf := Lib.hid hf
  clear hn' hcf hf
  go_enter Try.func144, Try.ntmps144
  go_wp2
  go_loopw [8] (fun i wr => ∃ k : Nat, k ≤ n ∧ i = .int .i64 k ∧ Hid ((xs.take k).all p = true) ∧ Below w.heap.size w wr) (fun i _ => n - (intOf i).toNat)
  case atStart => exact ⟨0, Nat.zero_le _, rfl, rfl, Below.refl _ _⟩
  case round =>
    obtain ⟨k, hk, rfl, hA, hB⟩ := hrel
    have hs := hB.size
    by_cases hlt : k < n
    · have hkx : k < xs.length := by rw [← Hn.out]; exact hlt
      obtain ⟨x, hx⟩ : ∃ x, xs[k]? = some x := ⟨_, List.getElem?_eq_getElem hkx⟩
      obtain ⟨g, cc, u, cs, e1, hc1, hE, _, _⟩ := ManyE.at_ ((om2_ok _).later ha hB) (om_ok _) hx
      simp only [Value.slice.injEq] at e1
      obtain ⟨rfl, e2, rfl⟩ := e1
      clear e2
      have ht := Hf.out x (List.mem_of_getElem? hx) wr u cs hB hE
      clear hE
      have hcf := Hcf.out
      cases hb : p x with
      | true =>
        rw [hb] at ht
        have Ht := Lib.hid ht
        have hnx := Lib.hid (all_take hx hA.out hb)
        clear hkx hx hA ht hb
        go_wp2_with fail
        clear hcf
        refine Ht.out.mono ?_
        rintro e w2 ⟨rfl, hb2⟩
        go_wp2
        go_roundw
        case rel => exact ⟨k + 1, by omega, by go_num, hnx, hB.trans (hb2.mono hs)⟩
        case measure => simp [intOf]; omega
      | false =>
        rw [hb] at ht
        have Ht := Lib.hid ht
        have hno := Lib.hid (badP_at hx hA.out hb)
        clear hkx hx hA ht hb
        go_wp2_with fail
        clear hcf
        refine Ht.out.mono ?_
        rintro e w2 ⟨rfl, hb2⟩
        go_wp2
        go_ret
        exact ⟨by rw [hno.out]; rfl, hB.trans (hb2.mono hs)⟩
    · have e : k = n := by omega
      subst e
      have hno := Lib.hid (show badP p xs = -1 by
        have h1 := hA.out
        rw [Hn.out, List.take_length] at h1
        exact badP_none h1)
      clear hA
      go_wp2
      go_ret
      exact ⟨by rw [hno.out]; rfl, hB⟩
theorem cont_om1 {base : Nat} {v : Value} {xs : List (List (Int × ByteArray))} {bs : List Nat} (w : World) (p : List (Int × ByteArray) → Bool) (f : FuncId) (cap : Array Value) (hcf : ∀ args w, (callFunc f args).run Try.prog w = .ok (.enter f args) w) (hn : xs.length ≤ 1048576) (ha : Om2E base w v xs bs)
    (hf : ∀ x ∈ xs, ∀ W u cs, Below w.heap.size w W → OmE base W u x cs → Calls Try.prog f (#[u] ++ cap) W (TupPost (.bool (!p x)) W)) :
    Calls Try.prog 123 #[v, .func (.func f) #[] cap] w (SeenPost (.bool (!xs.all p)) w) := by
  have H := Lib.hid (idx_om1 w p f cap hcf hn ha hf)
  rw [← badP_all]
  generalize badP p xs = r at *
  clear hn ha hcf hf
  go_enter Try.func123, Try.ntmps123
  go_wp2_with fail
  refine H.out.mono ?_
  rintro e w2 ⟨rfl, hb2⟩
  go_wp2
  go_ret
  exact ⟨rfl, hb2⟩
set_option maxHeartbeats 6400000 in
set_option maxRecDepth 100000 in
theorem strange_op {B n m k0 : Nat} {A0 : Option Addr} {st : Int} {z1 z2 : Value} (x : Int × Int × ByteArray) (w : World) (hB : Bx w B 36 #[.int .i64 (m : Int), .int .i64 st, .slice A0 n k0, z1, z2]) :
    Calls Try.prog 124 (#[.agg #[.int .i64 x.1, .int .i64 x.2.1, .string x.2.2]] ++ #[.pointer (some ⟨B, 0, none⟩)]) w (TupPost (.bool (!opB n m x)) w) := by
  obtain ⟨x0, x1, x2⟩ := x
  have HS := Lib.hid (fun W => op_isOf x0 x1 x2 m st z1 z2 W (A0 := A0) (n := n) (k0 := k0))
  have hA := (Below.refl w.heap.size w).alloc (Nat.le_refl _) (.cells #[.int .i64 x0, .int .i64 x1, .string x2] 75)
  obtain ⟨d0, d1, d2, d3, d4, dl⟩ := id (hB.alloc (.cells #[.int .i64 x0, .int .i64 x1, .string x2] 75)).all5
  have HA := Lib.hid hA
  generalize opB n m (x0, x1, x2) = r at *
  clear hA hB
  change Calls Try.prog _ #[.agg #[.int .i64 x0, .int .i64 x1, .string x2], .pointer (some ⟨B, 0, none⟩)] w _
  go_enter Try.func124, Try.ntmps124
  go_wp2_with fail
  refine (HS.out _).mono ?_
  rintro e w1 ⟨rfl, hb1⟩
  go_wp2
  go_ret
  exact ⟨rfl, HA.out.trans (hb1.mono HA.out.size)⟩
set_option maxHeartbeats 6400000 in
set_option maxRecDepth 100000 in
theorem idx_op0 {base : Nat} {v : Value} {xs : List (Int × Int × ByteArray)} {bs : List Nat} (w : World) (p : Int × Int × ByteArray → Bool) (f : FuncId) (cap : Array Value) (hcf : ∀ args w, (callFunc f args).run Try.prog w = .ok (.enter f args) w) (hn : xs.length ≤ 1048576) (ha : OpE base w v xs bs)
    (hf : ∀ x ∈ xs, ∀ W, Below w.heap.size w W → Calls Try.prog f (#[.agg #[.int .i64 x.1, .int .i64 x.2.1, .string x.2.2]] ++ cap) W (TupPost (.bool (!p x)) W)) :
    Calls Try.prog 145 #[v, .func (.func f) #[] cap] w (SeenPost (.int .i64 (badP p xs)) w) := by
  obtain ⟨A, ca, rfl⟩ := RowE.slice ha
  obtain ⟨n, hn'⟩ : ∃ n, n = xs.length := ⟨_, rfl⟩
  have Hn := Lib.hid hn'
  rw [← hn'] at ha hn ⊢
  have Hcf := Lib.hid hcf
  have Hf := Lib.hid hf
  clear hn' hcf hf
  go_enter Try.func145, Try.ntmps145
  go_wp2
  go_loopw [8] (fun i wr => ∃ k : Nat, k ≤ n ∧ i = .int .i64 k ∧ Hid ((xs.take k).all p = true) ∧ Below w.heap.size w wr) (fun i _ => n - (intOf i).toNat)
  case atStart => exact ⟨0, Nat.zero_le _, rfl, rfl, Below.refl _ _⟩
  case round =>
    obtain ⟨k, hk, rfl, hA, hB⟩ := hrel
    have hs := hB.size
    by_cases hlt : k < n
    · have hkx : k < xs.length := by rw [← Hn.out]; exact hlt
      obtain ⟨x, hx⟩ : ∃ x, xs[k]? = some x := ⟨_, List.getElem?_eq_getElem hkx⟩
      obtain ⟨g, rfl, hg, _⟩ := RowE.head ha hkx
      have hc1 := (hB.cell (p := ⟨g, k * 3, none⟩) hg).trans (OpE.cell' ha hx).1
      have hc2 := (hB.cell (p := ⟨g, k * 3 + 1, none⟩) hg).trans (OpE.cell' ha hx).2.1
      have hc3 := (hB.cell (p := ⟨g, k * 3 + 2, none⟩) hg).trans (OpE.cell' ha hx).2.2
      have ht := Hf.out x (List.mem_of_getElem? hx) wr hB
      have hcf := Hcf.out
      cases hb : p x with
      | true =>
        rw [hb] at ht
        have Ht := Lib.hid ht
        have hnx := Lib.hid (all_take hx hA.out hb)
        clear hkx hx hA ht hb
        obtain ⟨x0, x1, x2⟩ := x
        dsimp only at hc1 hc2 hc3 Ht
        go_wp2_with fail
        clear hcf
        refine Ht.out.mono ?_
        rintro e w2 ⟨rfl, hb2⟩
        go_wp2
        go_roundw
        case rel => exact ⟨k + 1, by omega, by go_num, hnx, hB.trans (hb2.mono hs)⟩
        case measure => simp [intOf]; omega
      | false =>
        rw [hb] at ht
        have Ht := Lib.hid ht
        have hno := Lib.hid (badP_at hx hA.out hb)
        clear hkx hx hA ht hb
        obtain ⟨x0, x1, x2⟩ := x
        dsimp only at hc1 hc2 hc3 Ht
        go_wp2_with fail
        clear hcf
        refine Ht.out.mono ?_
        rintro e w2 ⟨rfl, hb2⟩
        go_wp2
        go_ret
        exact ⟨by rw [hno.out]; rfl, hB.trans (hb2.mono hs)⟩
    · have e : k = n := by omega
      subst e
      have hno := Lib.hid (show badP p xs = -1 by
        have h1 := hA.out
        rw [Hn.out, List.take_length] at h1
        exact badP_none h1)
      clear hA
      go_wp2
      go_ret
      exact ⟨by rw [hno.out]; rfl, hB⟩
theorem cont_op0 {base : Nat} {v : Value} {xs : List (Int × Int × ByteArray)} {bs : List Nat} (w : World) (p : Int × Int × ByteArray → Bool) (f : FuncId) (cap : Array Value) (hcf : ∀ args w, (callFunc f args).run Try.prog w = .ok (.enter f args) w) (hn : xs.length ≤ 1048576) (ha : OpE base w v xs bs)
    (hf : ∀ x ∈ xs, ∀ W, Below w.heap.size w W → Calls Try.prog f (#[.agg #[.int .i64 x.1, .int .i64 x.2.1, .string x.2.2]] ++ cap) W (TupPost (.bool (!p x)) W)) :
    Calls Try.prog 126 #[v, .func (.func f) #[] cap] w (SeenPost (.bool (!xs.all p)) w) := by
  have H := Lib.hid (idx_op0 w p f cap hcf hn ha hf)
  rw [← badP_all]
  generalize badP p xs = r at *
  clear hn ha hcf hf
  go_enter Try.func126, Try.ntmps126
  go_wp2_with fail
  refine H.out.mono ?_
  rintro e w2 ⟨rfl, hb2⟩
  go_wp2
  go_ret
  exact ⟨rfl, hb2⟩
set_option maxHeartbeats 6400000 in
set_option maxRecDepth 100000 in
theorem idx_op1 {base : Nat} {v : Value} {xs : List (List (Int × Int × ByteArray))} {bs : List Nat} (w : World) (p : List (Int × Int × ByteArray) → Bool) (f : FuncId) (cap : Array Value) (hcf : ∀ args w, (callFunc f args).run Try.prog w = .ok (.enter f args) w) (hn : xs.length ≤ 1048576) (ha : Op2E base w v xs bs)
    (hf : ∀ x ∈ xs, ∀ W u cs, Below w.heap.size w W → OpE base W u x cs → Calls Try.prog f (#[u] ++ cap) W (TupPost (.bool (!p x)) W)) :
    Calls Try.prog 146 #[v, .func (.func f) #[] cap] w (SeenPost (.int .i64 (badP p xs)) w) := by
  obtain ⟨A, ca, rfl⟩ := ManyE.slice ha
  obtain ⟨n, hn'⟩ : ∃ n, n = xs.length := ⟨_, rfl⟩
  have Hn := Lib.hid hn'
  rw [← hn'] at ha hn ⊢
  have Hcf := Lib.hid hcf
  have Hf := Lib.hid hf
  clear hn' hcf hf
  go_enter Try.func146, Try.ntmps146
  go_wp2
  go_loopw [8] (fun i wr => ∃ k : Nat, k ≤ n ∧ i = .int .i64 k ∧ Hid ((xs.take k).all p = true) ∧ Below w.heap.size w wr) (fun i _ => n - (intOf i).toNat)
  case atStart => exact ⟨0, Nat.zero_le _, rfl, rfl, Below.refl _ _⟩
  case round =>
    obtain ⟨k, hk, rfl, hA, hB⟩ := hrel
    have hs := hB.size
    by_cases hlt : k < n
    · have hkx : k < xs.length := by rw [← Hn.out]; exact hlt
      obtain ⟨x, hx⟩ : ∃ x, xs[k]? = some x := ⟨_, List.getElem?_eq_getElem hkx⟩
      obtain ⟨g, cc, u, cs, e1, hc1, hE, _, _⟩ := ManyE.at_ ((op2_ok _).later ha hB) (op_ok _) hx
      simp only [Value.slice.injEq] at e1
      obtain ⟨rfl, e2, rfl⟩ := e1
      clear e2
      have ht := Hf.out x (List.mem_of_getElem? hx) wr u cs hB hE
      clear hE
      have hcf := Hcf.out
      cases hb : p x with
      | true =>
        rw [hb] at ht
        have Ht := Lib.hid ht
        have hnx := Lib.hid (all_take hx hA.out hb)
        clear hkx hx hA ht hb
        go_wp2_with fail
        clear hcf
        refine Ht.out.mono ?_
        rintro e w2 ⟨rfl, hb2⟩
        go_wp2
        go_roundw
        case rel => exact ⟨k + 1, by omega, by go_num, hnx, hB.trans (hb2.mono hs)⟩
        case measure => simp [intOf]; omega
      | false =>
        rw [hb] at ht
        have Ht := Lib.hid ht
        have hno := Lib.hid (badP_at hx hA.out hb)
        clear hkx hx hA ht hb
        go_wp2_with fail
        clear hcf
        refine Ht.out.mono ?_
        rintro e w2 ⟨rfl, hb2⟩
        go_wp2
        go_ret
        exact ⟨by rw [hno.out]; rfl, hB.trans (hb2.mono hs)⟩
    · have e : k = n := by omega
      subst e
      have hno := Lib.hid (show badP p xs = -1 by
        have h1 := hA.out
        rw [Hn.out, List.take_length] at h1
        exact badP_none h1)
      clear hA
      go_wp2
      go_ret
      exact ⟨by rw [hno.out]; rfl, hB⟩
theorem cont_op1 {base : Nat} {v : Value} {xs : List (List (Int × Int × ByteArray))} {bs : List Nat} (w : World) (p : List (Int × Int × ByteArray) → Bool) (f : FuncId) (cap : Array Value) (hcf : ∀ args w, (callFunc f args).run Try.prog w = .ok (.enter f args) w) (hn : xs.length ≤ 1048576) (ha : Op2E base w v xs bs)
    (hf : ∀ x ∈ xs, ∀ W u cs, Below w.heap.size w W → OpE base W u x cs → Calls Try.prog f (#[u] ++ cap) W (TupPost (.bool (!p x)) W)) :
    Calls Try.prog 127 #[v, .func (.func f) #[] cap] w (SeenPost (.bool (!xs.all p)) w) := by
  have H := Lib.hid (idx_op1 w p f cap hcf hn ha hf)
  rw [← badP_all]
  generalize badP p xs = r at *
  clear hn ha hcf hf
  go_enter Try.func127, Try.ntmps127
  go_wp2_with fail
  refine H.out.mono ?_
  rintro e w2 ⟨rfl, hb2⟩
  go_wp2
  go_ret
  exact ⟨rfl, hb2⟩
end Go.Proofs.Ytmkamodmnplclaa
