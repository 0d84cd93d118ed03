/- The plain rewriters, in plain words; a rewriter that is carried home into the result's box. -/
import Derived.Test.YtmkamodmnplclaaRwAt
import Derived.Test.YtmkamodmnplclaaSym
namespace Go.Proofs.Ytmkamodmnplclaa
open Go.RowKit
set_option linter.unusedVariables false

def plCall (s : Nat) : List (Int × Int × ByteArray) := [((s : Int), 0, ⟨#[40]⟩), ((s : Int), 0, ⟨#[91]⟩)]
def plRet (m s : Nat) : List (List (Int × ByteArray)) := [List.replicate (m + 1) ((s : Int), ⟨#[41]⟩), List.replicate (m + 1) ((s : Int), ⟨#[93]⟩)]
def plInner (s : Nat) : List (Int × ByteArray) := [((s : Int), ⟨#[97]⟩), ((s : Int), ⟨#[98]⟩)]
def plainRw (n m : Nat) : Rw := { stack := m, start := 0, call := (List.range n).map plCall, ret := (List.range n).map (plRet m), inner := (List.range n).map plInner }
/-- How many rows there are. -/
def RwLen (c : Rw) (x y z : Nat) : Prop := c.call.length = x ∧ c.ret.length = y ∧ c.inner.length = z
theorem RwLen.call {c : Rw} {x y z : Nat} (h : RwLen c x y z) {r : List (Int × Int × ByteArray)} : RwLen { c with call := c.call ++ [r] } (x + 1) y z := ⟨by rw [List.length_append, h.1]; rfl, h.2⟩
theorem RwLen.ret {c : Rw} {x y z : Nat} (h : RwLen c x y z) {r : List (List (Int × ByteArray))} : RwLen { c with ret := c.ret ++ [r] } x (y + 1) z := ⟨h.1, by rw [List.length_append, h.2.1]; rfl, h.2.2⟩
theorem RwLen.inner {c : Rw} {x y z : Nat} (h : RwLen c x y z) {r : List (Int × ByteArray)} : RwLen { c with inner := c.inner ++ [r] } x y (z + 1) := ⟨h.1, h.2.1, by rw [List.length_append, h.2.2]; rfl⟩
theorem plainRw_len (n m : Nat) : RwLen (plainRw n m) n n n := by simp [plainRw, RwLen]
theorem plainRw_succ (n m : Nat) : plainRw (n + 1) m = { stack := m, start := 0, call := (plainRw n m).call ++ [plCall n], ret := (plainRw n m).ret ++ [plRet m n], inner := (plainRw n m).inner ++ [plInner n] } := by
  simp [plainRw, List.range_succ]
theorem plainRw_bd {n m : Nat} (hn : n ≤ 2) (hm : m ≤ 2) : BdRw (plainRw n m) := by
  rcases (by omega : n = 0 ∨ n = 1 ∨ n = 2) with rfl | rfl | rfl <;> rcases (by omega : m = 0 ∨ m = 1 ∨ m = 2) with rfl | rfl | rfl <;>
    (refine ⟨?_, ?_, ?_, ?_⟩ <;> simp [plainRw, plCall, plRet, plInner, Bd1, Bd2, Bd3, szRw, szL, lenOp, lenOm, List.range_succ])
theorem plain_at0 {base : Nat} (W : World) (m : Nat) (hb : base ≤ W.heap.size) : RwAt base (W.alloc (.cells #[.int .i64 m, .int .i64 0, .slice none 0 0, .slice none 0 0, .slice none 0 0] 36)) W.heap.size (plainRw 0 m) [] [] [] :=
  ⟨⟨_, _, _, Bx.new _ _ _, ManyE.nil _ _ _ _, ManyE.nil _ _ _ _, ManyE.nil _ _ _ _⟩, by simp, by simp, by simp, by simp, by simp, by simp, hb⟩
theorem rw_base {b b' : Nat} (hb : b' ≤ b) {w : World} {v : Value} {c : Rw} {bs : List Nat} (h : RwE b w v c bs) : RwE b' w v c bs := by
  obtain ⟨v0, v1, v2, b0, b1, b2, rfl, h0, h1, h2, e, hn⟩ := h
  exact ⟨v0, v1, v2, b0, b1, b2, rfl, ops2_base hb _ _ _ _ h0, oms3_base hb _ _ _ _ h1, oms2_base hb _ _ _ _ h2, e, hn⟩
/-- The five cells of a box are written. -/
def set5 (X : World) (b : Nat) (x0 x1 x2 x3 x4 : Value) : World := ((((X.setCell ⟨b, 0, none⟩ x0).setCell ⟨b, 1, none⟩ x1).setCell ⟨b, 2, none⟩ x2).setCell ⟨b, 3, none⟩ x3).setCell ⟨b, 4, none⟩ x4
theorem rw_home {w Wr X : World} {R : Nat} {c : Rw} {v z0 z1 z2 z3 z4 x0 x1 x2 x3 x4 : Value} {bs : List Nat} (hR : w.heap.size ≤ R) (hWr : Below w.heap.size w Wr) (hsz : R < Wr.heap.size) (hx : Bx Wr R 36 #[z0, z1, z2, z3, z4]) (hX : Below Wr.heap.size Wr X)
    (h : RwE Wr.heap.size X v c bs) : Bx (set5 X R x0 x1 x2 x3 x4) R 36 #[x0, x1, x2, x3, x4] ∧ RwE w.heap.size (set5 X R x0 x1 x2 x3 x4) v c bs ∧ Below w.heap.size w (set5 X R x0 x1 x2 x3 x4) := by
  have xr := hx.same (hX.block _ hsz)
  have x5 := ((((xr.set 0 x0).set 1 x1).set 2 x2).set 3 x3).set 4 x4
  have hfr : ∀ (V : World) (i : Nat) (v : Value) (k : Nat), R < k → (V.setCell ⟨R, i, none⟩ v).heap[k]? = V.heap[k]? := fun V i v k hk => Below.heap_setCell V ⟨R, i, none⟩ v k (fun e => by
    have h2 : k = R := e
    omega)
  refine ⟨x5, rw_base (by omega) ((rewriter_ok _).kept h fun k hk => ?_), ?_⟩
  · have hk2 := ((rewriter_ok _).lt h k hk).1
    have hk3 : R < k := by omega
    unfold set5
    rw [hfr _ _ _ k hk3, hfr _ _ _ k hk3, hfr _ _ _ k hk3, hfr _ _ _ k hk3, hfr _ _ _ k hk3]
  · unfold set5
    exact (((((hWr.trans (hX.mono hWr.size)).setCell (p := ⟨R, 0, none⟩) hR _).setCell (p := ⟨R, 1, none⟩) hR _).setCell (p := ⟨R, 2, none⟩) hR _).setCell (p := ⟨R, 3, none⟩) hR _).setCell (p := ⟨R, 4, none⟩) hR _
theorem nil_rw (w : World) (base : Nat) : RwE base w (.agg #[.int .i64 0, .int .i64 0, .slice none 0 0, .slice none 0 0, .slice none 0 0]) ⟨0, 0, [], [], []⟩ [] :=
  ⟨_, _, _, [], [], [], rfl, ManyE.nil _ _ _ _, ManyE.nil _ _ _ _, ManyE.nil _ _ _ _, rfl, List.nodup_nil⟩
/-- A row of a new block, one longer. -/
theorem rep_snoc {α : Type} (k : Nat) (x : α) : List.replicate k x ++ [x] = List.replicate (k + 1) x := by
  rw [List.replicate_succ']

/-- Two rows of moves in the block L, each of one move so often. -/
structure TwoRows (B : Nat) (X wr : World) (L j0 j1 : Nat) (x y : Int × ByteArray) : Prop where
  ex : ∃ A0 c0 A1 c1 e0 e1, Bx wr L 79 #[.slice A0 j0 c0, .slice A1 j1 c1] ∧ OmE B wr (.slice A0 j0 c0) (List.replicate j0 x) e0 ∧ OmE B wr (.slice A1 j1 c1) (List.replicate j1 y) e1 ∧ (∀ k ∈ e0, k ∉ e1) ∧ L ∉ e0 ∧ L ∉ e1
  hB : Below B X wr
  hL : B ≤ L
  hX : B ≤ X.heap.size
theorem TwoRows.start (X : World) (x y : Int × ByteArray) : TwoRows X.heap.size X (((X.alloc (.cells #[] 78)).alloc (.cells #[] 78)).alloc (.cells #[.slice (some ⟨X.heap.size, 0, none⟩) 0 0, .slice (some ⟨X.heap.size + 1, 0, none⟩) 0 0] 79)) (X.heap.size + 1 + 1) 0 0 x y := by
  refine ⟨⟨some ⟨X.heap.size, 0, none⟩, 0, some ⟨X.heap.size + 1, 0, none⟩, 0, [X.heap.size], [X.heap.size + 1], ?_, ?_, ?_, by simp, by simp; omega, by simp⟩, ((Below.refl _ _).alloc (Nat.le_refl _) _).alloc (by simp) _ |>.alloc (by simp only [World.size_alloc]; omega) _, by omega, Nat.le_refl _⟩
  · have t := Bx.new ((X.alloc (.cells #[] 78)).alloc (.cells #[] 78)) 79 #[.slice (some ⟨X.heap.size, 0, none⟩) 0 0, .slice (some ⟨X.heap.size + 1, 0, none⟩) 0 0]
    simpa only [World.size_alloc] using t
  · exact rowE_lit 0 (((Bx.new X _ _).alloc _).alloc _) (Nat.le_refl _) rfl rfl rfl (by unfold maxLen; omega)
  · have t := (Bx.new (X.alloc (.cells #[] 78)) 78 #[]).alloc (.cells #[.slice (some ⟨X.heap.size, 0, none⟩) 0 0, .slice (some ⟨X.heap.size + 1, 0, none⟩) 0 0] 79)
    rw [World.size_alloc] at t
    exact rowE_lit 0 t (by omega) rfl rfl rfl (by unfold maxLen; omega)
theorem rep_om {w : World} {B g cap j : Nat} {x : Int × ByteArray} (h : w.ownsRow B 78 2 (.slice (some ⟨g, 0, none⟩) (j + 1) cap) (j + 1) ((List.replicate j x).flatMap (fun x => [Value.int .i64 x.1, .string x.2]) ++ [.int .i64 x.1, .string x.2])) : OmE B w (.slice (some ⟨g, 0, none⟩) (j + 1) cap) (List.replicate (j + 1) x) [g] := by
  refine ⟨?_, rfl⟩
  rw [List.length_replicate, List.replicate_succ', List.flatMap_append]
  exact h
theorem TwoRows.grow0 {B L j0 j1 c0 c1 g cap : Nat} {X wr W w5 : World} {x y : Int × ByteArray} {A0 A1 : Option Addr} {e0 e1 : List Nat} (xb : Bx wr L 79 #[.slice A0 j0 c0, .slice A1 j1 c1]) (f0 : OmE B wr (.slice A0 j0 c0) (List.replicate j0 x) e0) (f1 : OmE B wr (.slice A1 j1 c1) (List.replicate j1 y) e1)
    (hd : ∀ k ∈ e0, k ∉ e1) (n0 : L ∉ e0) (n1 : L ∉ e1) (hB : Below B X wr) (hL : B ≤ L) (hX : B ≤ X.heap.size) (hW : Below wr.heap.size wr W)
    (hown : w5.ownsRow B 78 2 (.slice (some ⟨g, 0, none⟩) (j0 + 1) cap) (j0 + 1) ((List.replicate j0 x).flatMap (fun x => [Value.int .i64 x.1, .string x.2]) ++ [.int .i64 x.1, .string x.2])) (hg : W.grownBy w5 (Value.slice A0 j0 c0).ownBlock) (hat : (Value.slice A0 j0 c0).ownBlock = some g ∨ g = W.heap.size) :
    TwoRows B X (w5.setCell ⟨L, 0, none⟩ (.slice (some ⟨g, 0, none⟩) (j0 + 1) cap)) L (j0 + 1) (j1) x y ∧ Bx w5 L 79 #[.slice A0 j0 c0, .slice A1 j1 c1] := by
  have hbl : ∀ k, (Value.slice A0 j0 c0).ownBlock = some k → k ∈ e0 := fun k hk => by rw [f0.2, hk]; simp
  have t0 := fun k hk => (om_ok _).lt f0 k hk
  have t1 := fun k hk => (om_ok _).lt f1 k hk
  have hsz := hW.size
  have hlt := xb.lt
  have hold : ∀ k, k < wr.heap.size → k ∉ e0 → w5.heap[k]? = wr.heap[k]? := fun k hk hn => (hg.block k (by omega) (fun e => hn (hbl k e.symm))).trans (hW.block k hk)
  have hset : ∀ k, k ≠ L → (w5.setCell ⟨L, 0, none⟩ (.slice (some ⟨g, 0, none⟩) (j0 + 1) cap)).heap[k]? = w5.heap[k]? := fun k hk => Below.heap_setCell w5 ⟨L, 0, none⟩ _ k hk
  have x5 := xb.same (hold L hlt n0)
  have hgn : g ∈ e0 ∨ wr.heap.size ≤ g := by rcases hat with h | h; exact .inl (hbl g h); exact .inr (by omega)
  have hgL : g ≠ L := fun e => by subst e; rcases hgn with h | h; exact n0 h; omega
  have hgo : g ∉ e1 := fun h1 => by rcases hgn with h | h; exact hd g h h1; have := (t1 g h1).2; omega
  have hrow := rep_om hown
  refine ⟨⟨⟨_, _, _, _, [g], e1, x5.set 0 _, ?_, ?_, ?_, ?_, ?_⟩, ?_, hL, hX⟩, x5⟩
  · exact (om_ok _).kept hrow fun k hk => hset k (fun e => hgL (by rw [← e, List.mem_singleton.1 hk]))
  · exact (om_ok _).kept f1 fun k hk => (hset k (fun e => n1 (e ▸ hk))).trans (hold k (t1 k hk).2 (fun h => hd k h hk))
  · intro k hk; rw [List.mem_singleton.1 hk]; exact hgo
  · simpa using fun e : L = g => hgL e.symm
  · exact n1
  · have hsz0 := hB.size
    have hb5 : Below B wr w5 := (hW.mono (by omega)).trans ⟨hg.os, hg.tape, hg.output, hg.size, fun k hk => hg.block k (by omega) (fun e => by have := (t0 k (hbl k e.symm)).1; omega)⟩
    exact (hB.trans hb5).setCell hL _
theorem TwoRows.grow1 {B L j0 j1 c0 c1 g cap : Nat} {X wr W w5 : World} {x y : Int × ByteArray} {A0 A1 : Option Addr} {e0 e1 : List Nat} (xb : Bx wr L 79 #[.slice A0 j0 c0, .slice A1 j1 c1]) (f0 : OmE B wr (.slice A0 j0 c0) (List.replicate j0 x) e0) (f1 : OmE B wr (.slice A1 j1 c1) (List.replicate j1 y) e1)
    (hd : ∀ k ∈ e0, k ∉ e1) (n0 : L ∉ e0) (n1 : L ∉ e1) (hB : Below B X wr) (hL : B ≤ L) (hX : B ≤ X.heap.size) (hW : Below wr.heap.size wr W)
    (hown : w5.ownsRow B 78 2 (.slice (some ⟨g, 0, none⟩) (j1 + 1) cap) (j1 + 1) ((List.replicate j1 y).flatMap (fun x => [Value.int .i64 x.1, .string x.2]) ++ [.int .i64 y.1, .string y.2])) (hg : W.grownBy w5 (Value.slice A1 j1 c1).ownBlock) (hat : (Value.slice A1 j1 c1).ownBlock = some g ∨ g = W.heap.size) :
    TwoRows B X (w5.setCell ⟨L, 1, none⟩ (.slice (some ⟨g, 0, none⟩) (j1 + 1) cap)) L (j0) (j1 + 1) x y ∧ Bx w5 L 79 #[.slice A0 j0 c0, .slice A1 j1 c1] := by
  have hbl : ∀ k, (Value.slice A1 j1 c1).ownBlock = some k → k ∈ e1 := fun k hk => by rw [f1.2, hk]; simp
  have t0 := fun k hk => (om_ok _).lt f0 k hk
  have t1 := fun k hk => (om_ok _).lt f1 k hk
  have hsz := hW.size
  have hlt := xb.lt
  have hold : ∀ k, k < wr.heap.size → k ∉ e1 → w5.heap[k]? = wr.heap[k]? := fun k hk hn => (hg.block k (by omega) (fun e => hn (hbl k e.symm))).trans (hW.block k hk)
  have hset : ∀ k, k ≠ L → (w5.setCell ⟨L, 1, none⟩ (.slice (some ⟨g, 0, none⟩) (j1 + 1) cap)).heap[k]? = w5.heap[k]? := fun k hk => Below.heap_setCell w5 ⟨L, 1, none⟩ _ k hk
  have x5 := xb.same (hold L hlt n1)
  have hgn : g ∈ e1 ∨ wr.heap.size ≤ g := by rcases hat with h | h; exact .inl (hbl g h); exact .inr (by omega)
  have hgL : g ≠ L := fun e => by subst e; rcases hgn with h | h; exact n1 h; omega
  have hgo : g ∉ e0 := fun h1 => by rcases hgn with h | h; exact hd g h1 h; have := (t0 g h1).2; omega
  have hrow := rep_om hown
  refine ⟨⟨⟨_, _, _, _, e0, [g], x5.set 1 _, ?_, ?_, ?_, ?_, ?_⟩, ?_, hL, hX⟩, x5⟩
  · exact (om_ok _).kept f0 fun k hk => (hset k (fun e => n0 (e ▸ hk))).trans (hold k (t0 k hk).2 (hd k hk))
  · exact (om_ok _).kept hrow fun k hk => hset k (fun e => hgL (by rw [← e, List.mem_singleton.1 hk]))
  · intro k hk h; rw [List.mem_singleton.1 h] at hk; exact hgo hk
  · exact n0
  · simpa using fun e : L = g => hgL e.symm
  · have hsz0 := hB.size
    have hb5 : Below B wr w5 := (hW.mono (by omega)).trans ⟨hg.os, hg.tape, hg.output, hg.size, fun k hk => hg.block k (by omega) (fun e => by have := (t1 k (hbl k e.symm)).1; omega)⟩
    exact (hB.trans hb5).setCell hL _
end Go.Proofs.Ytmkamodmnplclaa
