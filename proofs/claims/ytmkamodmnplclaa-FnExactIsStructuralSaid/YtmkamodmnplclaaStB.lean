/- IsStructural: both answer the same. -/
import Derived.Test.YtmkamodmnplclaaStM
import Derived.Test.YtmkamodmnplclaaStL
namespace Go.Proofs.Ytmkamodmnplclaa
open Go.RowKit
set_option linter.unusedVariables false

set_option maxHeartbeats 6400000 in
set_option maxRecDepth 100000 in
theorem spec_IsStructural_no {base : Nat} {v : Value} {c : Rw} {bs : List Nat} (w : World) (hc : BdRw c) (ha : RwE base w v c bs) (h : okR c = false) :
    Calls Try.prog 36 #[v] w (TupPost (.tuple #[.bool false, .int .i64 1]) w) := by
  obtain ⟨A0, n0, k0, A1, n1, k1, A2, n2, k2, b1, b2, b3, rfl, hat⟩ := RwAt.boxed ha
  have H := Lib.hid (spec_okR _ hc hat)
  rw [h] at H
  have hB := Lib.hid ((Below.refl w.heap.size w).alloc (Nat.le_refl _) (.cells #[.int .i64 c.stack, .int .i64 c.start, .slice A0 n0 k0, .slice A1 n1 k1, .slice A2 n2 k2] 36))
  clear hat hc ha h
  go_enter Try.func36, Try.ntmps36
  go_wp2_with fail
  refine H.out.mono ?_
  rintro e w1 ⟨rfl, hb⟩
  go_wp2
  go_ret2
  exact ⟨rfl, hB.out.trans (hb.mono hB.out.size)⟩
set_option maxHeartbeats 6400000 in
set_option maxRecDepth 100000 in
theorem spec_IsStructural_yes {base : Nat} {v : Value} {c : Rw} {bs : List Nat} (w : World) (hc : BdRw c) (ha : RwE base w v c bs) (h : okR c = true) :
    Calls Try.prog 36 #[v] w (TupPost (.tuple #[.bool (stR c), .int .i64 0]) w) := by
  obtain ⟨A0, n0, k0, A1, n1, k1, A2, n2, k2, b1, b2, b3, rfl, hat⟩ := RwAt.boxed ha
  have H := Lib.hid (spec_okR _ hc hat)
  rw [h] at H
  have HS := Lib.hid (fun W hb => spec_struct W hc (okR_vs h) (hat.later hb))
  have hB := Lib.hid ((Below.refl w.heap.size w).alloc (Nat.le_refl _) (.cells #[.int .i64 c.stack, .int .i64 c.start, .slice A0 n0 k0, .slice A1 n1 k1, .slice A2 n2 k2] 36))
  clear hat hc ha h
  generalize stR c = r at *
  go_enter Try.func36, Try.ntmps36
  go_wp2_with fail
  refine H.out.mono ?_
  rintro e w1 ⟨rfl, hb⟩
  go_wp2_with fail
  refine (HS.out _ hb).mono ?_
  rintro e w2 ⟨rfl, hb2⟩
  go_wp2
  go_ret2
  exact ⟨rfl, hB.out.trans ((hb.trans (hb2.mono hb.size)).mono hB.out.size)⟩
set_option maxHeartbeats 6400000 in
set_option maxRecDepth 100000 in
theorem impl_IsStructural {base : Nat} {v : Value} {c : Rw} {bs : List Nat} (w : World) (hc : BdRw c) (ha : RwE base w v c bs) :
    Calls Try.prog 37 #[v] w (TupPost (if okR c = true then .tuple #[.bool (stR c), .int .i64 0] else .tuple #[.bool false, .int .i64 1]) w) := by
  have H := Lib.hid (fun W (hb : Below w.heap.size w W) => impl_ValidRewriter W hc ((rewriter_ok _).later ha hb))
  have HS := Lib.hid (fun W (h : okR c = true) (hb : Below w.heap.size w W) => impl_struct W hc (okR_vs h) ((rewriter_ok _).later ha hb))
  obtain ⟨A0, n0, k0, A1, n1, k1, A2, n2, k2, rfl⟩ := RwE.form ha
  have hB := Lib.hid ((Below.refl w.heap.size w).alloc (Nat.le_refl _) (.cells #[.int .i64 c.stack, .int .i64 c.start, .slice A0 n0 k0, .slice A1 n1 k1, .slice A2 n2 k2] 36))
  have HX := Lib.hid (Bx.new w 36 #[.int .i64 c.stack, .int .i64 c.start, .slice A0 n0 k0, .slice A1 n1 k1, .slice A2 n2 k2])
  clear hc ha
  cases h : okR c with
  | false =>
    rw [if_neg (by decide)]
    rw [h] at H
    clear h HS
    go_enter Try.func37, Try.ntmps37
    go_wp2_with fail
    refine (H.out _ hB.out).mono ?_
    rintro e w1 ⟨rfl, hb⟩
    go_wp2
    go_ret2
    exact ⟨rfl, hB.out.trans (hb.mono hB.out.size)⟩
  | true =>
    rw [if_pos rfl]
    rw [h] at H
    have HS2 := Lib.hid (fun W hb => HS.out W h hb)
    clear h HS
    generalize stR c = r at *
    go_enter Try.func37, Try.ntmps37
    go_wp2_with fail
    refine (H.out _ hB.out).mono ?_
    rintro e w1 ⟨rfl, hb⟩
    have hB1 := hB.out.trans (hb.mono hB.out.size)
    obtain ⟨c0, c1, c2, c3, c4, cl⟩ := id (HX.out.later hb).all5
    go_wp2_with fail
    refine (HS2.out _ hB1).mono ?_
    rintro e w2 ⟨rfl, hb2⟩
    go_wp2
    go_ret2
    exact ⟨rfl, hB1.trans (hb2.mono hB1.size)⟩
theorem both_IsStructural (c : Rw) : ∃ (r0 : Bool) (r1 : Int),
    (∀ base0 v0 bs0 w, BdRw c → RwE base0 w v0 c bs0 → Calls Try.prog 36 #[v0] w (TupPost (.tuple #[.bool r0, .int .i64 r1]) w)) ∧
    (∀ base0 v0 bs0 w, BdRw c → RwE base0 w v0 c bs0 → Calls Try.prog 37 #[v0] w (TupPost (.tuple #[.bool r0, .int .i64 r1]) w)) := by
  cases h : okR c with
  | false => exact ⟨false, 1, fun _ _ _ w hc ha => spec_IsStructural_no w hc ha h, fun _ _ _ w hc ha => by have := impl_IsStructural w hc ha; rwa [h, if_neg (by decide)] at this⟩
  | true => exact ⟨stR c, 0, fun _ _ _ w hc ha => spec_IsStructural_yes w hc ha h, fun _ _ _ w hc ha => by have := impl_IsStructural w hc ha; rwa [h, if_pos rfl] at this⟩
end Go.Proofs.Ytmkamodmnplclaa
