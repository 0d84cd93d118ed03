/- StartWatcher, of the model and of the program. -/
import Derived.Test.YtfaiifiohomdmaaQValid
import Derived.Test.YtfaiifiohomdmaaWt
import Derived.Test.YtfaiifiohomdmaaPosts
import Derived.Test.YtfaiifiohomdmaaGrow
import Derived.Deep.AppendLies
import Derived.WalkSpells
namespace Go.Proofs.Ytfaiifiohomdmaa
open Go.RowKit
set_option linter.unusedVariables false

theorem one_cells {x : Bool × ByteArray} {xs : List (Bool × ByteArray)} : ∀ u ∈ (xs.flatMap fun x => [Value.bool x.1, .string x.2]), u.oneCell' = true := by
  intro u hu
  simp only [List.mem_flatMap] at hu
  obtain ⟨x, _, hu⟩ := hu
  rcases List.mem_cons.1 hu with rfl | hu
  · rfl
  · rw [List.mem_singleton.1 hu]; rfl
theorem row_news {α : Type} {base : Nat} {e : TypeId} {size : Nat} {enc : α → List Value} {w : World} {g n c : Nat} {xs : List α} {bs : List Nat} (h : RowE base e size enc w (.slice (some ⟨g, 0, none⟩) n c) xs bs) :
    ∀ j u, (xs.flatMap enc)[j]? = some u → w.cell? ((⟨g, 0, none⟩ : Addr).add j) = some u := by
  intro j u hu
  have hr := h.1
  have hj := (List.getElem?_eq_some_iff.1 hu).1
  have hl := hr.1
  rcases hr.2 with ⟨h0, _⟩ | ⟨g', cap, cur, hv, _⟩
  · cases h0
  simp only [Value.slice.injEq, Option.some.injEq, Addr.mk.injEq, and_true] at hv
  obtain ⟨rfl, rfl, rfl⟩ := hv
  have := hr.cellAt j (by rw [← hl]; exact hj)
  rw [hu] at this
  have e : (⟨g, 0, none⟩ : Addr).add j = ⟨g, j, none⟩ := by
    by_cases h0 : j = 0
    · subst h0; simp [Addr.add]
    · simp [Addr.add, h0]
  rw [e]
  exact this


theorem step_at (k : Nat) (hk : k ≤ 5) (w : World) : Calls Try.prog 217 #[.int .i64 (k : Int)] w fun e w' => e = .returned (.int .u8 ((2 ^ k : Nat) : Int)) ∧ w = w' := by
  rcases (by omega : k = 0 ∨ k = 1 ∨ k = 2 ∨ k = 3 ∨ k = 4 ∨ k = 5) with rfl | rfl | rfl | rfl | rfl | rfl
  all_goals
    go_enter Try.func217, Try.ntmps217
    go_wp2
    go_ret
    exact ⟨rfl, rfl⟩
theorem has_one (k : Nat) (hk : k ≤ 5) (w : World) : Calls Try.prog 187 #[.int .u8 1, .int .i64 (k : Int)] w fun e w' => e = .returned (.bool (decide (k = 0))) ∧ w = w' := by
  rcases (by omega : k = 0 ∨ k = 1 ∨ k = 2 ∨ k = 3 ∨ k = 4 ∨ k = 5) with rfl | rfl | rfl | rfl | rfl | rfl
  all_goals
    go_enter Try.func187, Try.ntmps187
    go_wp2_with (go_at_call 217; refine (step_at _ (by omega) _).mono ?_; rintro e w' ⟨rfl, rfl⟩)
    go_ret
    exact ⟨rfl, rfl⟩
def lst1 (k : Nat) : List Int := if k = 0 then [] else [0]
set_option maxHeartbeats 3200000 in
set_option maxRecDepth 100000 in
theorem list_one (w : World) : Calls Try.prog 116 #[.int .u8 1] w (NewPost IntsE [0] w) := by
  obtain ⟨i0, hi, hz0, hz1, hz2⟩ := info_parts toInfo_i64
  go_enter Try.func116, Try.ntmps116
  go_wp2
  go_loopw [3, 5] (fun sm i wr => ∃ k : Nat, k ≤ 6 ∧ i = .int .i64 k ∧ (∃ bs, IntsE w.heap.size wr sm (lst1 k) bs) ∧ Below w.heap.size w wr) (fun _ i _ => 6 - (intOf i).toNat)
  case atStart => exact ⟨0, Nat.zero_le _, rfl, ⟨[], by simpa [lst1] using World.ownsRow_nil _ _ _ _, rfl⟩, Below.refl _ _⟩
  case round =>
    obtain ⟨k, hk, rfl, ⟨bs, hS⟩, hB⟩ := hrel
    by_cases hlt : k < 6
    · have hh := fun w => has_one k (by omega) w
      by_cases h0 : k = 0
      · subst h0
        have e9 : decide ((0 : Nat) = 0) = true := rfl
        rw [e9] at hh
        have HH := Lib.hid hh
        clear e9
        obtain ⟨A', ca, rfl⟩ := RowE.slice hS
        have hrow := hS.1
        have e0 : (lst1 0).length = 0 := rfl
        rw [e0] at hrow ⊢
        have Hb := Lib.hid (And.intro hS (And.intro hB hrow))
        have hsz := hB.size
        clear hS hB hrow hh e0
        rw [show ((0 : Nat) : Int) = 0 from rfl] at HH ⊢
        go_wp2_with fail
        refine (HH.out _).mono ?_
        rintro e w' ⟨rfl, rfl⟩
        go_wp2_with (at_builtin; refine wpList_append_lies _ rfl _ _ 38 rfl w.heap.size 2 i0 (.int .i64 0) 1 8 Try.underlying38 hi hz0 hz1 hz2 rfl (by decide) _ 0 _ rfl (Hb.out.2.2.alloc _) ⟨wr.heap.size, 0, none⟩ 1 1 [.int .i64 0] rfl rfl (World.news_of_block (Bx.new wr _ _)) (fun u hu => by rw [List.mem_singleton.1 hu]; rfl) (by decide) ?c1 ?c2 ?c3 _ rfl ?_)
        case c1 => unfold maxLen; omega
        case c2 => omega
        case c3 => simp; omega
        intro g1 cap1 w5 hown hg5 hat hltg
        have hB6 : Below w.heap.size w w5 := (Hb.out.2.1.alloc Hb.out.2.1.size _).grown hg5 (by simp; omega) (fun k hk => ((ints_ok _).lt Hb.out.1 k (by
          have h8 : (Value.slice A' (lst1 0).length ca).ownBlock = some k := hk
          rw [Hb.out.1.2, h8]; simp)).1)
        have hS6 : IntsE w.heap.size w5 (.slice (some ⟨g1, 0, none⟩) 1 cap1) (lst1 1) [g1] := ⟨hown, rfl⟩
        clear hown hg5 hat
        go_wp2
        go_roundw
        case rel => exact ⟨1, by omega, by go_num, ⟨_, hS6⟩, hB6⟩
        case measure => simp [intOf]
      · have e : decide (k = 0) = false := by simpa using h0
        rw [e] at hh
        have HH := Lib.hid hh
        have e1 : lst1 k = lst1 (k + 1) := by simp [lst1, h0]
        rw [e1] at hS
        have HS := Lib.hid hS
        clear hh e e1 hS
        go_wp2_with fail
        refine (HH.out _).mono ?_
        rintro e w' ⟨rfl, rfl⟩
        go_wp2
        go_roundw
        case rel => exact ⟨k + 1, by omega, by go_num, ⟨_, HS.out⟩, hB⟩
        case measure => simp [intOf]; omega
    · have e : k = 6 := by omega
      subst e
      go_wp2
      go_ret
      exact ⟨_, bs, rfl, hS, hB⟩
def startW (c : Qr) : Wt := { query := c, seen := 0, now := [0], stack := [] }
def nilW : Wt := { query := ⟨[]⟩, seen := 0, now := [], stack := [] }
theorem startW_of {base : Nat} {w : World} {v u : Value} {c : Qr} {b0 b1 : List Nat} (h0 : QfE base w v c b0) (h1 : IntsE base w u [0] b1) (hd : ∀ b ∈ b0, b ∉ b1) :
    WtE base w (.agg #[v, .int .i64 0, u, .slice none 0 0]) (startW c) (b0 ++ (b1 ++ [])) := by
  refine ⟨v, u, .slice none 0 0, b0, b1, [], rfl, h0, h1, ManyE.nil _ _ _ _, rfl, ?_⟩
  rw [List.append_nil]
  exact List.nodup_append.2 ⟨(qf_ok _).nodup h0, (ints_ok _).nodup h1, fun a ha b hb e => hd a ha (e ▸ hb)⟩
theorem nilW_e (base : Nat) (w : World) : WtE base w (.agg #[.slice none 0 0, .int .i64 0, .slice none 0 0, .slice none 0 0]) nilW [] := by
  have hr : ∀ (e : TypeId) (k : Nat), w.ownsRow base e k (.slice none 0 0) 0 [] := fun e k => World.ownsRow_nil _ _ _ _
  exact ⟨_, _, _, [], [], [], rfl, ⟨hr _ _, rfl⟩, ⟨hr _ _, rfl⟩, ManyE.nil _ _ _ _, rfl, List.nodup_nil⟩
theorem wt_base {b b' : Nat} (hb : b' ≤ b) {w : World} {v : Value} {x : Wt} {bs : List Nat} (h : WtE b w v x bs) : WtE b' w v x bs := by
  obtain ⟨v0, v1, v2, b0, b1, b2, rfl, h0, h1, h2, h3, h4⟩ := h
  exact ⟨v0, v1, v2, b0, b1, b2, rfl, qf_base hb _ _ _ _ h0, ints_base hb _ _ _ _ h1, ints2_base hb _ _ _ _ h2, h3, h4⟩
theorem Bx.four {W : World} {B : Nat} {t : TypeId} {a0 a1 a2 a3 : Value} (h : Bx W B t #[a0, a1, a2, a3]) (v0 v1 v2 v3 : Value) :
    Bx ((((W.setCell ⟨B, 0, none⟩ v0).setCell ⟨B, 1, none⟩ v1).setCell ⟨B, 2, none⟩ v2).setCell ⟨B, 3, none⟩ v3) B t #[v0, v1, v2, v3] := ((((h.set 0 v0).set 1 v1).set 2 v2).set 3 v3)
theorem keep4 {α : Type} {base : Nat} {E : EP α} (hE : EP.Ok base E) {W : World} {v : Value} {x : α} {bs : List Nat} (h : E W v x bs) {B : Nat} (hB : ∀ b ∈ bs, b ≠ B) (v0 v1 v2 v3 : Value) :
    E ((((W.setCell ⟨B, 0, none⟩ v0).setCell ⟨B, 1, none⟩ v1).setCell ⟨B, 2, none⟩ v2).setCell ⟨B, 3, none⟩ v3) v x bs :=
  keepE hE (keepE hE (keepE hE (keepE hE h (Below.refl _ _) hB 0 v0) (Below.refl _ _) hB 1 v1) (Below.refl _ _) hB 2 v2) (Below.refl _ _) hB 3 v3
theorem below4 {n B : Nat} {w W : World} (h : Below n w W) (hB : n ≤ B) (v0 v1 v2 v3 : Value) :
    Below n w ((((W.setCell ⟨B, 0, none⟩ v0).setCell ⟨B, 1, none⟩ v1).setCell ⟨B, 2, none⟩ v2).setCell ⟨B, 3, none⟩ v3) :=
  (((h.setCell (p := ⟨B, 0, none⟩) hB v0).setCell (p := ⟨B, 1, none⟩) hB v1).setCell (p := ⟨B, 2, none⟩) hB v2).setCell (p := ⟨B, 3, none⟩) hB v3
end Go.Proofs.Ytfaiifiohomdmaa
