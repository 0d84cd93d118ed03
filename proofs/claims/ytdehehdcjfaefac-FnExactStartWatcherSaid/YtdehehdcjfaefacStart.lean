/- StartWatcher, of the model and of the program. -/
import Derived.Test.YtdehehdcjfaefacQValid
import Derived.Test.YtdehehdcjfaefacWt
import Derived.Test.YtdehehdcjfaefacPosts
import Derived.Test.YtdehehdcjfaefacGrow
import Derived.Deep.AppendLies
import Derived.WalkSpells
namespace Go.Proofs.Ytdehehdcjfaefac
open Go.RowKit
set_option linter.unusedVariables false

theorem one_cells {x : Bool × ByteArray} {xs : List (Bool × ByteArray)} : ∀ u ∈ (xs.flatMap fun x => [Value.bool x.1, .string x.2]), u.oneCell' = true := by
  intro u hu
  simp only [List.mem_flatMap] at hu
  obtain ⟨x, _, hu⟩ := hu
  rcases List.mem_cons.1 hu with rfl | hu
  · rfl
  · rw [List.mem_singleton.1 hu]; rfl
theorem row_news {α : Type} {base : Nat} {e : TypeId} {size : Nat} {enc : α → List Value} {w : World} {g n c : Nat} {xs : List α} {bs : List Nat} (h : RowE base e size enc w (.slice (some ⟨g, 0, none⟩) n c) xs bs) :
    ∀ j u, (xs.flatMap enc)[j]? = some u → w.cell? ((⟨g, 0, none⟩ : Addr).add j) = some u := by
  intro j u hu
  have hr := h.1
  have hj := (List.getElem?_eq_some_iff.1 hu).1
  have hl := hr.1
  rcases hr.2 with ⟨h0, _⟩ | ⟨g', cap, cur, hv, _⟩
  · cases h0
  simp only [Value.slice.injEq, Option.some.injEq, Addr.mk.injEq, and_true] at hv
  obtain ⟨rfl, rfl, rfl⟩ := hv
  have := hr.cellAt j (by rw [← hl]; exact hj)
  rw [hu] at this
  have e : (⟨g, 0, none⟩ : Addr).add j = ⟨g, j, none⟩ := by
    by_cases h0 : j = 0
    · subst h0; simp [Addr.add]
    · simp [Addr.add, h0]
  rw [e]
  exact this

set_option maxHeartbeats 3200000 in
set_option maxRecDepth 100000 in
theorem spec_copyQ {base B : Nat} {v : Value} {c : Qr} {bs : List Nat} (w : World) (hn : 1 ≤ c.steps.length ∧ c.steps.length ≤ 6) (hB : w.cell? ⟨B, 0, none⟩ = some v) (ha : StepE base w v c.steps bs) :
    Calls Try.prog 57 #[.pointer (some ⟨B, 0, none⟩)] w (NewPostQ QfE c w) := by
  obtain ⟨i0, hi, hz0, hz1, hz2⟩ := info_parts toInfo_step
  obtain ⟨A, ka, rfl⟩ := RowE.slice ha
  obtain ⟨g, rfl, hg, _⟩ := RowE.head ha (j := 0) (by omega)
  have hBl := World.block_lt_of_cell? _ _ hB
  have hb0 := ((Below.refl w.heap.size w).alloc (Nat.le_refl _) (.cells #[.slice none 0 0] 29)).alloc (by simp) (.cells #[] 59)
  have x1 := (Bx.new w 29 #[.slice none 0 0]).alloc (.cells #[] 59)
  have hnews := row_news ((step_ok _).later ha hb0)
  have hlen := ha.1.1
  have hone := one_cells (xs := c.steps) (x := (false, ⟨#[]⟩))
  have hrow : ((w.alloc (.cells #[.slice none 0 0] 29)).alloc (.cells #[] 59)).ownsRow (w.heap.size + 1) 59 2 (.slice (some ⟨w.heap.size + 1, 0, none⟩) 0 0) 0 [] := by
    have h := World.ownsRow_lit (base := w.heap.size + 1) (e := 59) (size := 2) (w.alloc (.cells #[.slice none 0 0] 29)) #[] 0 (by simp) (by unfold maxLen; omega) (by simp)
    simpa using h
  obtain ⟨n, hn'⟩ : ∃ n, n = c.steps.length := ⟨_, rfl⟩
  rw [← hn'] at hn hB
  have Hn := Lib.hid (And.intro hnews (And.intro hlen (And.intro hone (And.intro hrow (And.intro x1 hb0)))))
  have HN := Lib.hid hn'
  clear ha hnews hlen hone hrow x1 hb0 hn'
  go_enter Try.func57, Try.ntmps57
  go_wp2_with (at_builtin; refine wpList_append_lies _ rfl _ _ 27 rfl (w.heap.size + 1) 59 i0 (.agg #[.bool false, .string ⟨#[]⟩]) 2 24 Try.underlying27 hi hz0 hz1 hz2 rfl (by decide) _ 0 [] rfl Hn.out.2.2.2.1 ⟨g, 0, none⟩ n ka _ rfl ?c0 Hn.out.1 Hn.out.2.2.1 ?c4 ?c1 ?c2 ?c3 _ rfl ?_)
  case c0 => rw [HN.out]; first | exact Hn.out.2.1 | simpa using Hn.out.2.1
  case c4 => omega
  case c1 => unfold maxLen; omega
  case c2 => omega
  intro g1 cap1 w5 hown hg5 hat hltg
  have hE : StepE (w.heap.size + 1) w5 (.slice (some ⟨g1, 0, none⟩) n cap1) c.steps [g1] := ⟨by rw [← HN.out]; simpa using hown, rfl⟩
  have hB5 : Below w.heap.size w w5 := Hn.out.2.2.2.2.2.grown hg5 (by simp; omega) (fun k hk => by
    have : k = w.heap.size + 1 := by simpa [Value.ownBlock, eq_comm] using hk
    omega)
  have x5 : Bx w5 w.heap.size 29 #[.slice none 0 0] := Hn.out.2.2.2.2.1.same (hg5.block _ (by simp; omega) (fun e => by simp [Value.ownBlock] at e))
  have l5 := (step_ok _).lt hE
  have hE2 := keepE (step_ok _) hE (Below.refl _ _) (B := w.heap.size) (fun b hb => by have := l5 b hb; omega) 0 (.slice (some ⟨g1, 0, none⟩) n cap1)
  have c1 := x5.cell 0 _ rfl
  have q1 := x5.frozen 0
  have c2 := (x5.set 0 (.slice (some ⟨g1, 0, none⟩) n cap1)).cell 0 _ rfl
  have HE := Lib.hid (And.intro (steps_base (Nat.le_succ _) _ _ _ _ hE2) (hB5.setCell (p := ⟨w.heap.size, 0, none⟩) (Nat.le_refl _) (.slice (some ⟨g1, 0, none⟩) n cap1)))
  clear hown hg5 hat hE hB5 x5 l5 hE2
  go_wp2
  exact bodyPost_ret (v := .agg #[.slice (some ⟨g1, 0, none⟩) n cap1]) (by simp [results, Try.results57, go_sem, c2]) rfl ⟨_, _, rfl, HE.out.1, HE.out.2⟩
set_option maxHeartbeats 3200000 in
set_option maxRecDepth 100000 in
theorem clone_steps {base : Nat} {v : Value} {xs : List (Bool × ByteArray)} {bs : List Nat} (w : World) (hn : 1 ≤ xs.length ∧ xs.length ≤ 6) (ha : StepE base w v xs bs) :
    Calls Try.prog 100 #[v] w (NewPost StepE xs w) := by
  obtain ⟨i0, hi, hz0, hz1, hz2⟩ := info_parts toInfo_step
  obtain ⟨A, ka, rfl⟩ := RowE.slice ha
  obtain ⟨g, rfl, hg, _⟩ := RowE.head ha (j := 0) (by omega)
  have hb0 := (Below.refl w.heap.size w).alloc (Nat.le_refl _) (.cells #[] 59)
  have hnews := row_news ((step_ok _).later ha hb0)
  have hlen := ha.1.1
  have hone := one_cells (xs := xs) (x := (false, ⟨#[]⟩))
  have hrow : (w.alloc (.cells #[] 59)).ownsRow w.heap.size 59 2 (.slice (some ⟨w.heap.size, 0, none⟩) 0 0) 0 [] := by
    simpa using World.ownsRow_lit (base := w.heap.size) (e := 59) (size := 2) w #[] 0 (Nat.le_refl _) (by unfold maxLen; omega) (by simp)
  obtain ⟨n, hn'⟩ : ∃ n, n = xs.length := ⟨_, rfl⟩
  rw [← hn'] at hn ⊢
  have he := fun W : World => Lib.run_eql_slice_nil (P := Try.prog) W 27 59 (some ⟨g, 0, none⟩) n ka 0 0 Try.underlying27
  have Hn := Lib.hid (And.intro hnews (And.intro hlen (And.intro hone (And.intro hrow hb0))))
  have HN := Lib.hid hn'
  clear ha hnews hlen hone hrow hb0 hn'
  go_enter Try.func100, Try.ntmps100
  go_wp2_with (at_builtin; refine wpList_append_lies _ rfl _ _ 27 rfl w.heap.size 59 i0 (.agg #[.bool false, .string ⟨#[]⟩]) 2 24 Try.underlying27 hi hz0 hz1 hz2 rfl (by decide) _ 0 [] rfl Hn.out.2.2.2.1 ⟨g, 0, none⟩ n ka _ rfl ?c0 Hn.out.1 Hn.out.2.2.1 ?c4 ?c1 ?c2 ?c3 _ rfl ?_)
  case c0 => rw [HN.out]; exact Hn.out.2.1
  case c4 => omega
  case c1 => unfold maxLen; omega
  case c2 => omega
  case c3 => simp
  intro g1 cap1 w5 hown hg5 hat hltg
  have hE : StepE w.heap.size w5 (.slice (some ⟨g1, 0, none⟩) n cap1) xs [g1] := ⟨by rw [← HN.out]; simpa using hown, rfl⟩
  have hB5 : Below w.heap.size w w5 := Hn.out.2.2.2.2.grown hg5 (by simp) (fun k hk => by
    have : k = w.heap.size := by simpa [Value.ownBlock, eq_comm] using hk
    omega)
  clear hown hg5 hat
  go_wp2
  go_ret
  exact ⟨_, _, rfl, hE, hB5⟩
set_option maxHeartbeats 3200000 in
set_option maxRecDepth 100000 in
theorem impl_copyQ {base : Nat} {v : Value} {c : Qr} {bs : List Nat} (w : World) (hn : 1 ≤ c.steps.length ∧ c.steps.length ≤ 6) (ha : StepE base w v c.steps bs) :
    Calls Try.prog 86 #[.agg #[v]] w (NewPostQ QfE c w) := by
  have hb0 := ((Below.refl w.heap.size w).alloc (Nat.le_refl _) (.cells #[v] 29)).alloc (by simp) (.cells #[.slice none 0 0] 29)
  have x1 := (Bx.new w 29 #[v]).alloc (.cells #[.slice none 0 0] 29)
  have x2 := Bx.new (w.alloc (.cells #[v] 29)) 29 #[.slice none 0 0]
  rw [World.size_alloc] at x2
  have Q := Lib.hid (clone_steps _ hn ((step_ok _).later ha hb0))
  have c0 := x1.cell 0 _ rfl
  have HX := Lib.hid (And.intro x2 (And.intro hb0 hb0.size))
  have hlt2 := x2.lt
  clear ha x1 x2 hb0 hn
  go_enter Try.func86, Try.ntmps86
  go_wp2_with fail
  refine Q.out.mono ?_
  rintro e w5 ⟨v5, bs5, rfl, hE, hb5⟩
  obtain ⟨x2, hb0, hs0⟩ := HX.out
  have x5 := x2.later hb5
  have l5 := (step_ok _).lt hE
  have hE2 := keepE (step_ok _) hE (Below.refl _ _) (B := w.heap.size + 1) (fun b hb => by have := l5 b hb; omega) 0 v5
  have c1 := x5.cell 0 _ rfl
  have q1 := x5.frozen 0
  have c2 := (x5.set 0 v5).cell 0 _ rfl
  have HE := Lib.hid (And.intro (steps_base hs0 _ _ _ _ hE2) ((hb0.trans (hb5.mono hs0)).setCell (p := ⟨w.heap.size + 1, 0, none⟩) (by simp) v5))
  obtain ⟨A5, k5, rfl⟩ := RowE.slice hE
  clear hE x2 hb0 hs0 x5 l5 hE2 hb5 c0
  go_wp2
  exact bodyPost_ret (v := .agg #[.slice A5 c.steps.length k5]) (by simp [results, Try.results86, go_sem, c2]) rfl ⟨_, _, rfl, HE.out.1, HE.out.2⟩

theorem step_at (k : Nat) (hk : k ≤ 5) (w : World) : Calls Try.prog 103 #[.int .i64 (k : Int)] w fun e w' => e = .returned (.int .u8 ((2 ^ k : Nat) : Int)) ∧ w = w' := by
  rcases (by omega : k = 0 ∨ k = 1 ∨ k = 2 ∨ k = 3 ∨ k = 4 ∨ k = 5) with rfl | rfl | rfl | rfl | rfl | rfl
  all_goals
    go_enter Try.func103, Try.ntmps103
    go_wp2
    go_ret
    exact ⟨rfl, rfl⟩
theorem has_one (k : Nat) (hk : k ≤ 5) (w : World) : Calls Try.prog 95 #[.int .u8 1, .int .i64 (k : Int)] w fun e w' => e = .returned (.bool (decide (k = 0))) ∧ w = w' := by
  rcases (by omega : k = 0 ∨ k = 1 ∨ k = 2 ∨ k = 3 ∨ k = 4 ∨ k = 5) with rfl | rfl | rfl | rfl | rfl | rfl
  all_goals
    go_enter Try.func95, Try.ntmps95
    go_wp2_with (go_at_call 103; refine (step_at _ (by omega) _).mono ?_; rintro e w' ⟨rfl, rfl⟩)
    go_ret
    exact ⟨rfl, rfl⟩
def lst1 (k : Nat) : List Int := if k = 0 then [] else [0]
set_option maxHeartbeats 3200000 in
set_option maxRecDepth 100000 in
theorem list_one (w : World) : Calls Try.prog 71 #[.int .u8 1] w (NewPost IntsE [0] w) := by
  obtain ⟨i0, hi, hz0, hz1, hz2⟩ := info_parts toInfo_i64
  go_enter Try.func71, Try.ntmps71
  go_wp2
  go_loopw [3, 5] (fun sm i wr => ∃ k : Nat, k ≤ 6 ∧ i = .int .i64 k ∧ (∃ bs, IntsE w.heap.size wr sm (lst1 k) bs) ∧ Below w.heap.size w wr) (fun _ i _ => 6 - (intOf i).toNat)
  case atStart => exact ⟨0, Nat.zero_le _, rfl, ⟨[], by simpa [lst1] using World.ownsRow_nil _ _ _ _, rfl⟩, Below.refl _ _⟩
  case round =>
    obtain ⟨k, hk, rfl, ⟨bs, hS⟩, hB⟩ := hrel
    by_cases hlt : k < 6
    · have hh := fun w => has_one k (by omega) w
      by_cases h0 : k = 0
      · subst h0
        have e9 : decide ((0 : Nat) = 0) = true := rfl
        rw [e9] at hh
        have HH := Lib.hid hh
        clear e9
        obtain ⟨A', ca, rfl⟩ := RowE.slice hS
        have hrow := hS.1
        have e0 : (lst1 0).length = 0 := rfl
        rw [e0] at hrow ⊢
        have Hb := Lib.hid (And.intro hS (And.intro hB hrow))
        have hsz := hB.size
        clear hS hB hrow hh e0
        rw [show ((0 : Nat) : Int) = 0 from rfl] at HH ⊢
        go_wp2_with fail
        refine (HH.out _).mono ?_
        rintro e w' ⟨rfl, rfl⟩
        go_wp2_with (at_builtin; refine wpList_append_lies _ rfl _ _ 37 rfl w.heap.size 2 i0 (.int .i64 0) 1 8 Try.underlying37 hi hz0 hz1 hz2 rfl (by decide) _ 0 _ rfl (Hb.out.2.2.alloc _) ⟨wr.heap.size, 0, none⟩ 1 1 [.int .i64 0] rfl rfl (World.news_of_block (Bx.new wr _ _)) (fun u hu => by rw [List.mem_singleton.1 hu]; rfl) (by decide) ?c1 ?c2 ?c3 _ rfl ?_)
        case c1 => unfold maxLen; omega
        case c2 => omega
        case c3 => simp; omega
        intro g1 cap1 w5 hown hg5 hat hltg
        have hB6 : Below w.heap.size w w5 := (Hb.out.2.1.alloc Hb.out.2.1.size _).grown hg5 (by simp; omega) (fun k hk => ((ints_ok _).lt Hb.out.1 k (by
          have h8 : (Value.slice A' (lst1 0).length ca).ownBlock = some k := hk
          rw [Hb.out.1.2, h8]; simp)).1)
        have hS6 : IntsE w.heap.size w5 (.slice (some ⟨g1, 0, none⟩) 1 cap1) (lst1 1) [g1] := ⟨hown, rfl⟩
        clear hown hg5 hat
        go_wp2
        go_roundw
        case rel => exact ⟨1, by omega, by go_num, ⟨_, hS6⟩, hB6⟩
        case measure => simp [intOf]
      · have e : decide (k = 0) = false := by simpa using h0
        rw [e] at hh
        have HH := Lib.hid hh
        have e1 : lst1 k = lst1 (k + 1) := by simp [lst1, h0]
        rw [e1] at hS
        have HS := Lib.hid hS
        clear hh e e1 hS
        go_wp2_with fail
        refine (HH.out _).mono ?_
        rintro e w' ⟨rfl, rfl⟩
        go_wp2
        go_roundw
        case rel => exact ⟨k + 1, by omega, by go_num, ⟨_, HS.out⟩, hB⟩
        case measure => simp [intOf]; omega
    · have e : k = 6 := by omega
      subst e
      go_wp2
      go_ret
      exact ⟨_, bs, rfl, hS, hB⟩
def startW (c : Qr) : Wt := { query := c, seen := 0, now := [0], stack := [] }
def nilW : Wt := { query := ⟨[]⟩, seen := 0, now := [], stack := [] }
theorem startW_of {base : Nat} {w : World} {v u : Value} {c : Qr} {b0 b1 : List Nat} (h0 : QfE base w v c b0) (h1 : IntsE base w u [0] b1) (hd : ∀ b ∈ b0, b ∉ b1) :
    WtE base w (.agg #[v, .int .i64 0, u, .slice none 0 0]) (startW c) (b0 ++ (b1 ++ [])) := by
  refine ⟨v, u, .slice none 0 0, b0, b1, [], rfl, h0, h1, ManyE.nil _ _ _ _, rfl, ?_⟩
  rw [List.append_nil]
  exact List.nodup_append.2 ⟨(qf_ok _).nodup h0, (ints_ok _).nodup h1, fun a ha b hb e => hd a ha (e ▸ hb)⟩
theorem nilW_e (base : Nat) (w : World) : WtE base w (.agg #[.slice none 0 0, .int .i64 0, .slice none 0 0, .slice none 0 0]) nilW [] := by
  have hr : ∀ (e : TypeId) (k : Nat), w.ownsRow base e k (.slice none 0 0) 0 [] := fun e k => World.ownsRow_nil _ _ _ _
  exact ⟨_, _, _, [], [], [], rfl, ⟨hr _ _, rfl⟩, ⟨hr _ _, rfl⟩, ManyE.nil _ _ _ _, rfl, List.nodup_nil⟩
theorem wt_base {b b' : Nat} (hb : b' ≤ b) {w : World} {v : Value} {x : Wt} {bs : List Nat} (h : WtE b w v x bs) : WtE b' w v x bs := by
  obtain ⟨v0, v1, v2, b0, b1, b2, rfl, h0, h1, h2, h3, h4⟩ := h
  exact ⟨v0, v1, v2, b0, b1, b2, rfl, qf_base hb _ _ _ _ h0, ints_base hb _ _ _ _ h1, ints2_base hb _ _ _ _ h2, h3, h4⟩
theorem Bx.four {W : World} {B : Nat} {t : TypeId} {a0 a1 a2 a3 : Value} (h : Bx W B t #[a0, a1, a2, a3]) (v0 v1 v2 v3 : Value) :
    Bx ((((W.setCell ⟨B, 0, none⟩ v0).setCell ⟨B, 1, none⟩ v1).setCell ⟨B, 2, none⟩ v2).setCell ⟨B, 3, none⟩ v3) B t #[v0, v1, v2, v3] := ((((h.set 0 v0).set 1 v1).set 2 v2).set 3 v3)
theorem keep4 {α : Type} {base : Nat} {E : EP α} (hE : EP.Ok base E) {W : World} {v : Value} {x : α} {bs : List Nat} (h : E W v x bs) {B : Nat} (hB : ∀ b ∈ bs, b ≠ B) (v0 v1 v2 v3 : Value) :
    E ((((W.setCell ⟨B, 0, none⟩ v0).setCell ⟨B, 1, none⟩ v1).setCell ⟨B, 2, none⟩ v2).setCell ⟨B, 3, none⟩ v3) v x bs :=
  keepE hE (keepE hE (keepE hE (keepE hE h (Below.refl _ _) hB 0 v0) (Below.refl _ _) hB 1 v1) (Below.refl _ _) hB 2 v2) (Below.refl _ _) hB 3 v3
theorem below4 {n B : Nat} {w W : World} (h : Below n w W) (hB : n ≤ B) (v0 v1 v2 v3 : Value) :
    Below n w ((((W.setCell ⟨B, 0, none⟩ v0).setCell ⟨B, 1, none⟩ v1).setCell ⟨B, 2, none⟩ v2).setCell ⟨B, 3, none⟩ v3) :=
  (((h.setCell (p := ⟨B, 0, none⟩) hB v0).setCell (p := ⟨B, 1, none⟩) hB v1).setCell (p := ⟨B, 2, none⟩) hB v2).setCell (p := ⟨B, 3, none⟩) hB v3
set_option maxHeartbeats 3200000 in
set_option maxRecDepth 100000 in
theorem impl_newW {base : Nat} {v : Value} {c : Qr} {bs : List Nat} (w : World) (hn : 1 ≤ c.steps.length ∧ c.steps.length ≤ 6) (ha : StepE base w v c.steps bs) :
    Calls Try.prog 58 #[.agg #[v]] w (NewPost WtE (startW c) w) := by
  have hb0 := ((Below.refl w.heap.size w).alloc (Nat.le_refl _) (.cells #[v] 29)).alloc (by simp) (.cells #[.slice none 0 0, .int .i64 0, .slice none 0 0, .slice none 0 0] 44)
  have x1 := (Bx.new w 29 #[v]).alloc (.cells #[.slice none 0 0, .int .i64 0, .slice none 0 0, .slice none 0 0] 44)
  have x2 := Bx.new (w.alloc (.cells #[v] 29)) 44 #[.slice none 0 0, .int .i64 0, .slice none 0 0, .slice none 0 0]
  rw [World.size_alloc] at x2
  have Q := Lib.hid (impl_copyQ _ hn ((step_ok _).later ha hb0))
  have L := Lib.hid list_one
  have c0 := x1.cell 0 _ rfl
  have HX := Lib.hid (And.intro x2 (And.intro hb0 hb0.size))
  have hlt2 := x2.lt
  clear ha x1 x2 hb0 hn
  go_enter Try.func58, Try.ntmps58
  go_wp2_with fail
  refine Q.out.mono ?_
  rintro e w5 ⟨v5, bs5, rfl, hE, hb5⟩
  clear c0
  have HE := Lib.hid (And.intro hE hb5)
  obtain ⟨A5, k5, rfl⟩ := QfE.slice hE
  clear hE hb5
  go_wp2_with fail
  refine (L.out _).mono ?_
  rintro e w6 ⟨v6, bs6, rfl, hF, hb6⟩
  obtain ⟨hE, hb5⟩ := HE.out
  obtain ⟨x2, hb0, hs0⟩ := HX.out
  have x6 := (x2.later hb5).later hb6
  have hE6 := (qf_ok _).later hE hb6
  have l5 := (qf_ok _).lt hE
  have l6 := (ints_ok _).lt hF
  have s5 := hb5.size
  have hB6 := hb0.trans ((hb5.trans (hb6.mono s5)).mono hs0)
  obtain ⟨A6, k6, e6⟩ := RowE.slice hF
  have e6' : v6 = .slice A6 1 k6 := e6
  subst e6'
  clear e6
  have hd : ∀ b ∈ bs5, b ∉ bs6 := fun b h1 h2 => by have := (l5 b h1).2; have := (l6 b h2).1; omega
  have hw : w.heap.size ≤ w5.heap.size := Nat.le_trans hs0 s5
  have hz := hb0.size
  obtain ⟨c0, c1, c2, c3, cl⟩ := id x6.all4
  have q0 := x6.frozen 0
  have q1 := x6.frozen 1
  have q2 := x6.frozen 2
  have q3 := x6.frozen 3
  have y := x6.four (.slice A5 c.steps.length k5) (.int .i64 0) (.slice A6 1 k6) (.slice none 0 0)
  have hE7 := keep4 (qf_ok _) hE6 (B := w.heap.size + 1) (fun b hb => by have := l5 b hb; omega) (.slice A5 c.steps.length k5) (.int .i64 0) (.slice A6 1 k6) (.slice none 0 0)
  have hF7 := keep4 (ints_ok _) hF (B := w.heap.size + 1) (fun b hb => by have := l6 b hb; omega) (.slice A5 c.steps.length k5) (.int .i64 0) (.slice A6 1 k6) (.slice none 0 0)
  have hB7 := below4 hB6 (B := w.heap.size + 1) (Nat.le_succ _) (.slice A5 c.steps.length k5) (.int .i64 0) (.slice A6 1 k6) (.slice none 0 0)
  have HF := Lib.hid (And.intro (startW_of (qf_base hs0 _ _ _ _ hE7) (ints_base hw _ _ _ _ hF7) hd) hB7)
  obtain ⟨y0, y1, y2, y3, yl⟩ := id y.all4
  clear hE hb5 x2 hb0 hs0 x6 hE6 l5 l6 s5 hB6 hF hd hw hE7 hF7 hB7 y HE HX yl hb6
  go_wp2
  exact bodyPost_ret (v := .agg #[.slice A5 c.steps.length k5, .int .i64 0, .slice A6 1 k6, .slice none 0 0]) (by simp [results, Try.results58, go_sem, y0, y1, y2, y3]) rfl ⟨_, _, rfl, HF.out.1, HF.out.2⟩
theorem okQ_len {xs : List (Bool × ByteArray)} (h : okQ xs = true) : 1 ≤ xs.length ∧ xs.length ≤ 6 := by
  simp only [okQ, lenOk, Bool.and_eq_true, decide_eq_true_eq] at h
  exact h.1
set_option maxHeartbeats 3200000 in
set_option maxRecDepth 100000 in
theorem impl_Start_no {base : Nat} {v : Value} {c : Qr} {bs : List Nat} (w : World) (hc : BdQ c) (ha : QrE base w v c bs) (h : okQ c.steps = false) :
    Calls Try.prog 25 #[v] w (PostV WtE nilW 1 w) := by
  obtain ⟨v0, rfl, h0⟩ := ha
  have hb0 := ((Below.refl w.heap.size w).alloc (Nat.le_refl _) (.cells #[v0] 29)).alloc (by simp) (.cells #[.slice none 0 0, .int .i64 0, .slice none 0 0, .slice none 0 0] 44)
  have x1 := (Bx.new w 29 #[v0]).alloc (.cells #[.slice none 0 0, .int .i64 0, .slice none 0 0, .slice none 0 0] 44)
  have x2 := Bx.new (w.alloc (.cells #[v0] 29)) 44 #[.slice none 0 0, .int .i64 0, .slice none 0 0, .slice none 0 0]
  rw [World.size_alloc] at x2
  have q := impl_ValidQuery _ hc ((query_ok _).later ⟨v0, rfl, h0⟩ hb0)
  rw [h] at q
  have Q := Lib.hid q
  have c0 := x1.cell 0 _ rfl
  have hlt2 := x2.lt
  have HX := Lib.hid (And.intro x2 hb0)
  clear q x1 x2 hb0 h0 hc h
  go_enter Try.func25, Try.ntmps25
  go_wp2_with fail
  refine Q.out.mono ?_
  rintro e w5 ⟨rfl, hb5⟩
  clear c0
  have x6 := HX.out.1.later hb5
  have hB6 := HX.out.2.trans (hb5.mono HX.out.2.size)
  obtain ⟨c0, c1, c2, c3, cl⟩ := id x6.all4
  have q0 := x6.frozen 0
  have q1 := x6.frozen 1
  have q2 := x6.frozen 2
  have q3 := x6.frozen 3
  have y := x6.four (.slice none 0 0) (.int .i64 0) (.slice none 0 0) (.slice none 0 0)
  have hB7 := below4 hB6 (B := w.heap.size + 1) (Nat.le_succ _) (.slice none 0 0) (.int .i64 0) (.slice none 0 0) (.slice none 0 0)
  obtain ⟨y0, y1, y2, y3, yl⟩ := id y.all4
  have HF := Lib.hid hB7
  clear x6 hB6 y hB7 yl hb5 HX
  go_wp2
  exact bodyPost_ret (v := .tuple #[.agg #[.slice none 0 0, .int .i64 0, .slice none 0 0, .slice none 0 0], .int .i64 1]) (by simp [results, Try.results25, go_sem, y0, y1, y2, y3]) rfl ⟨_, [], rfl, nilW_e _ _, HF.out⟩
set_option maxHeartbeats 3200000 in
set_option maxRecDepth 100000 in
theorem spec_Start_no {base : Nat} {v : Value} {c : Qr} {bs : List Nat} (w : World) (hc : BdQ c) (ha : QrE base w v c bs) (h : okQ c.steps = false) :
    Calls Try.prog 24 #[v] w (PostR WtE nilW 1 w) := by
  obtain ⟨v0, rfl, h0⟩ := ha
  have hb0 := ((Below.refl w.heap.size w).alloc (Nat.le_refl _) (.cells #[v0] 29)).alloc (by simp) (.cells #[.slice none 0 0, .int .i64 0, .slice none 0 0, .slice none 0 0] 44)
  have x1 := (Bx.new w 29 #[v0]).alloc (.cells #[.slice none 0 0, .int .i64 0, .slice none 0 0, .slice none 0 0] 44)
  have x2 := Bx.new (w.alloc (.cells #[v0] 29)) 44 #[.slice none 0 0, .int .i64 0, .slice none 0 0, .slice none 0 0]
  rw [World.size_alloc] at x2
  have q := spec_okQ _ hc.steps (x1.cell 0 _ rfl) ((step_ok _).later h0 hb0)
  rw [h] at q
  have Q := Lib.hid q
  have c0 := x1.cell 0 _ rfl
  have hlt2 := x2.lt
  have HX := Lib.hid (And.intro x2 hb0)
  clear q x1 x2 hb0 h0 hc h
  go_enter Try.func24, Try.ntmps24
  go_wp2_with fail
  refine Q.out.mono ?_
  rintro e w5 ⟨rfl, rfl⟩
  clear c0
  go_wp2
  exact bodyPost_ret (v := .tuple #[.agg #[.slice none 0 0, .int .i64 0, .slice none 0 0, .slice none 0 0], .int .i64 1]) (by simp [results, Try.results24, go_sem]) rfl ⟨_, [], rfl, nilW_e _ _, HX.out.2⟩
set_option maxHeartbeats 3200000 in
set_option maxRecDepth 100000 in
theorem impl_Start_yes {base : Nat} {v : Value} {c : Qr} {bs : List Nat} (w : World) (hc : BdQ c) (ha : QrE base w v c bs) (h : okQ c.steps = true) :
    Calls Try.prog 25 #[v] w (PostV WtE (startW c) 0 w) := by
  have hn : 1 ≤ c.steps.length ∧ c.steps.length ≤ 6 := by
    simp only [okQ, lenOk, Bool.and_eq_true, decide_eq_true_eq] at h
    exact h.1
  obtain ⟨v0, rfl, h0⟩ := ha
  have hb0 := ((Below.refl w.heap.size w).alloc (Nat.le_refl _) (.cells #[v0] 29)).alloc (by simp) (.cells #[.slice none 0 0, .int .i64 0, .slice none 0 0, .slice none 0 0] 44)
  have x1 := (Bx.new w 29 #[v0]).alloc (.cells #[.slice none 0 0, .int .i64 0, .slice none 0 0, .slice none 0 0] 44)
  have x2 := Bx.new (w.alloc (.cells #[v0] 29)) 44 #[.slice none 0 0, .int .i64 0, .slice none 0 0, .slice none 0 0]
  rw [World.size_alloc] at x2
  have q := impl_ValidQuery _ hc ((query_ok _).later ⟨v0, rfl, h0⟩ hb0)
  rw [h] at q
  have Q := Lib.hid q
  have L := Lib.hid (fun (W : World) (hW : Below w.heap.size w W) => impl_newW W hn ((step_ok _).later h0 hW))
  have c0 := x1.cell 0 _ rfl
  have hlt2 := x2.lt
  have HX := Lib.hid (And.intro x2 (And.intro hb0 (And.intro hb0.size x1)))
  clear q x1 x2 hb0 h0 hc h hn
  go_enter Try.func25, Try.ntmps25
  go_wp2_with fail
  refine Q.out.mono ?_
  rintro e w5 ⟨rfl, hb5⟩
  clear c0
  have c0 := (HX.out.2.2.2.later hb5).cell 0 _ rfl
  have hB5 := HX.out.2.1.trans (hb5.mono HX.out.2.2.1)
  have HB5 := Lib.hid (And.intro hB5 hb5)
  clear hB5 hb5
  go_wp2_with fail
  refine (L.out _ HB5.out.1).mono ?_
  rintro e w6 ⟨v6, bs6, rfl, hE, hb6⟩
  clear c0
  obtain ⟨x2, hb0, hs0, _⟩ := HX.out
  obtain ⟨hB5, hb5⟩ := HB5.out
  have x6 := (x2.later hb5).later hb6
  have hB6 := hB5.trans (hb6.mono hB5.size)
  have l6 := (watcher_ok _).lt hE
  have s5 := hb5.size
  obtain ⟨A0, n0, k0, A1, n1, k1, A2, n2, k2, rfl⟩ := hE.form
  obtain ⟨c0, c1, c2, c3, cl⟩ := id x6.all4
  have q0 := x6.frozen 0
  have q1 := x6.frozen 1
  have q2 := x6.frozen 2
  have q3 := x6.frozen 3
  have y := x6.four (.slice A0 n0 k0) (.int .i64 0) (.slice A1 n1 k1) (.slice A2 n2 k2)
  have hE7 := keep4 (watcher_ok _) hE (B := w.heap.size + 1) (fun b hb => by have := l6 b hb; omega) (.slice A0 n0 k0) (.int .i64 0) (.slice A1 n1 k1) (.slice A2 n2 k2)
  have hB7 := below4 hB6 (B := w.heap.size + 1) (Nat.le_succ _) (.slice A0 n0 k0) (.int .i64 0) (.slice A1 n1 k1) (.slice A2 n2 k2)
  have HF := Lib.hid (And.intro (wt_base hB5.size hE7) hB7)
  obtain ⟨y0, y1, y2, y3, yl⟩ := id y.all4
  rw [show (startW c).seen = 0 from rfl] at *
  clear x2 hb0 hs0 hB5 hb5 x6 hB6 l6 s5 hE y hE7 hB7 yl HX HB5 hb6
  go_wp2
  exact bodyPost_ret (v := .tuple #[.agg #[.slice A0 n0 k0, .int .i64 0, .slice A1 n1 k1, .slice A2 n2 k2], .int .i64 0]) (by simp [results, Try.results25, go_sem, y0, y1, y2, y3]) rfl ⟨_, _, rfl, HF.out.1, HF.out.2⟩
set_option maxHeartbeats 3200000 in
set_option maxRecDepth 100000 in
theorem spec_Start_yes {base : Nat} {v : Value} {c : Qr} {bs : List Nat} (w : World) (hc : BdQ c) (ha : QrE base w v c bs) (h : okQ c.steps = true) :
    Calls Try.prog 24 #[v] w (PostR WtE (startW c) 0 w) := by
  have hn : 1 ≤ c.steps.length ∧ c.steps.length ≤ 6 := by
    simp only [okQ, lenOk, Bool.and_eq_true, decide_eq_true_eq] at h
    exact h.1
  obtain ⟨v0, rfl, h0⟩ := ha
  have hb0 := ((Below.refl w.heap.size w).alloc (Nat.le_refl _) (.cells #[v0] 29)).alloc (by simp) (.cells #[.slice none 0 0, .int .i64 0, .slice none 0 0, .slice none 0 0] 44)
  have x1 := (Bx.new w 29 #[v0]).alloc (.cells #[.slice none 0 0, .int .i64 0, .slice none 0 0, .slice none 0 0] 44)
  have x2 := Bx.new (w.alloc (.cells #[v0] 29)) 44 #[.slice none 0 0, .int .i64 0, .slice none 0 0, .slice none 0 0]
  rw [World.size_alloc] at x2
  have q := spec_okQ _ hc.steps (x1.cell 0 _ rfl) ((step_ok _).later h0 hb0)
  rw [h] at q
  have Q := Lib.hid q
  have L := Lib.hid (spec_copyQ _ hn (x1.cell 0 _ rfl) ((step_ok _).later h0 hb0))
  have hlt2 := x2.lt
  have HX := Lib.hid (And.intro x2 (And.intro hb0 hb0.size))
  clear q x1 x2 hb0 h0 hc h hn
  go_enter Try.func24, Try.ntmps24
  go_wp2_with fail
  refine Q.out.mono ?_
  rintro e w5 ⟨rfl, rfl⟩
  go_wp2_with fail
  refine L.out.mono ?_
  rintro e w5 ⟨v5, bs5, rfl, hE, hb5⟩
  obtain ⟨x2, hb0, hs0⟩ := HX.out
  obtain ⟨A5, k5, rfl⟩ := QfE.slice hE
  have l5 := (qf_ok _).lt hE
  obtain ⟨W5, hW5⟩ : ∃ W5, W5 = (((w5.setCell ⟨w.heap.size + 1, 0, none⟩ (.slice A5 c.steps.length k5)).setCell ⟨w.heap.size + 1, 1, none⟩ (.int .i64 0)).setCell ⟨w.heap.size + 1, 2, none⟩ (.slice (some ⟨w5.heap.size, 0, none⟩) 1 1)).setCell ⟨w.heap.size + 1, 3, none⟩ (.slice none 0 0) := ⟨_, rfl⟩
  have hs4 : W5.heap.size = w5.heap.size := by rw [hW5]; simp
  have hnew : Below W5.heap.size W5 (W5.alloc (.cells #[.int .i64 0] 2)) := (Below.refl _ _).alloc (Nat.le_refl _) _
  have hF : IntsE w5.heap.size (W5.alloc (.cells #[.int .i64 0] 2)) (.slice (some ⟨w5.heap.size, 0, none⟩) 1 1) [0] [w5.heap.size] := by
    have h := rowE_lit (size := 1) (enc := fun x => [Value.int .i64 x]) (xs := [(0 : Int)]) (base := w5.heap.size) 1 (World.alloc_heap_new W5 (.cells #[.int .i64 0] 2)) (by rw [hs4]; exact Nat.le_refl _) rfl rfl rfl (by unfold maxLen; omega)
    rw [hs4] at h
    exact h
  have s5 := hb5.size
  have hw : w.heap.size ≤ w5.heap.size := Nat.le_trans hs0 s5
  have hw1 : w.heap.size + 1 < w5.heap.size := by omega
  have hd : ∀ b ∈ bs5, b ∉ [w5.heap.size] := fun b h1 h2 => by have := (l5 b h1).2; rw [List.mem_singleton.1 h2] at this; omega
  have y5 := (x2.later hb5).four (.slice A5 c.steps.length k5) (.int .i64 0) (.slice (some ⟨w5.heap.size, 0, none⟩) 1 1) (.slice none 0 0)
  have hE5 := keep4 (qf_ok _) hE (B := w.heap.size + 1) (fun b hb => by have := l5 b hb; omega) (.slice A5 c.steps.length k5) (.int .i64 0) (.slice (some ⟨w5.heap.size, 0, none⟩) 1 1) (.slice none 0 0)
  have hB5 := below4 (hb0.trans (hb5.mono hs0)) (B := w.heap.size + 1) (Nat.le_succ _) (.slice A5 c.steps.length k5) (.int .i64 0) (.slice (some ⟨w5.heap.size, 0, none⟩) 1 1) (.slice none 0 0)
  rw [← hW5] at y5 hE5 hB5
  have y := y5.later hnew
  have hE7 := (qf_ok _).later hE5 hnew
  have hB7 := hB5.trans (hnew.mono (by omega))
  have HF := Lib.hid (And.intro (startW_of (qf_base hs0 _ _ _ _ hE7) (ints_base hw _ _ _ _ hF) hd) hB7)
  obtain ⟨y0, y1, y2, y3, yl⟩ := id y.all4
  rw [hW5] at HF y0 y1 y2 y3
  obtain ⟨b0, b1, b2, b3, bl⟩ := id (x2.later hb5).all4
  have r0 := (x2.later hb5).frozen 0
  have r1 := (x2.later hb5).frozen 1
  have r2 := (x2.later hb5).frozen 2
  have r3 := (x2.later hb5).frozen 3
  clear hE hb5 x2 hb0 hs0 l5 s5 hF hd hw hE7 hE5 hB5 hB7 y y5 HX yl hnew bl hs4 hW5
  go_wp2
  exact bodyPost_ret (v := .tuple #[.agg #[.slice A5 c.steps.length k5, .int .i64 0, .slice (some ⟨w5.heap.size, 0, none⟩) 1 1, .slice none 0 0], .int .i64 0]) (by simp [results, Try.results24, go_sem, y0, y1, y2, y3]) rfl ⟨_, _, rfl, wt_base (Nat.zero_le _) HF.out.1, HF.out.2⟩
theorem both_StartWatcher (c : Qr) : ∃ (x0 : Wt) (r1 : Int), BdW x0 ∧
    (∀ base0 v0 bs0 w, BdQ c → QrE base0 w v0 c bs0 → Calls Try.prog 24 #[v0] w (PostR WtE x0 r1 w)) ∧
    (∀ base0 v0 bs0 w, BdQ c → QrE base0 w v0 c bs0 → Calls Try.prog 25 #[v0] w (PostV WtE x0 r1 w)) := by
  cases h : okQ c.steps with
  | true =>
    refine ⟨startW c, 0, ?_, fun _ _ _ w hc ha => spec_Start_yes w hc ha h, fun _ _ _ w hc ha => impl_Start_yes w hc ha h⟩
    have hn := (okQ_len h).2
    refine ⟨⟨?_, ?_⟩, ?_, ⟨?_, ?_⟩, ?_⟩ <;> simp [startW, Bd1, szQ, lenS, szW, szL, lenI] <;> omega
  | false =>
    refine ⟨nilW, 1, ?_, fun _ _ _ w hc ha => spec_Start_no w hc ha h, fun _ _ _ w hc ha => impl_Start_no w hc ha h⟩
    refine ⟨⟨?_, ?_⟩, ?_, ⟨?_, ?_⟩, ?_⟩ <;> simp [nilW, Bd1, szQ, lenS, szW, szL, lenI]
end Go.Proofs.Ytdehehdcjfaefac
