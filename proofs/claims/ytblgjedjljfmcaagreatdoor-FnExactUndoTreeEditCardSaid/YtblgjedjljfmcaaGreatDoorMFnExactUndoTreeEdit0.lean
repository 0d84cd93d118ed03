import Derived.Test.YtblgjedjljfmcaaGreatDoorRows
import Derived.WalkKit
import Derived.ProofKit
import Derived.OpenShut
import Derived.WalkLawsBesides
import Derived.WalkSmall
import Derived.Outline
/- Contracts of the small functions on symbols, of the model and of the program. No condition but that a symbol's number is one. -/
namespace Go.Proofs.YtblgjedjljfmcaaGreatDoor
open Go.RowKit

/-- The number of a symbol, -1 of what is none. -/
def symNo (n : Int) : Int :=
  if n = 40 then 0 else if n = 91 then 1 else if n = 41 then 2 else if n = 93 then 3 else if n = 97 then 4 else if n = 98 then 5 else -1
def callB (n : Int) : Bool := decide (n = 40 ∨ n = 91)
def retB (n : Int) : Bool := decide (n = 41 ∨ n = 93)
def otherB (n : Int) : Int := if n = 40 then 41 else if n = 41 then 40 else if n = 91 then 93 else if n = 93 then 91 else n

theorem sym_cases (n : Int) : n = 40 ∨ n = 91 ∨ n = 41 ∨ n = 93 ∨ n = 97 ∨ n = 98 ∨ ((n == 40) = false ∧ (n == 91) = false ∧ (n == 41) = false ∧ (n == 93) = false ∧ (n == 97) = false ∧ (n == 98) = false) := by
  simp only [beq_eq_false_iff_ne]; omega

theorem symNo_none {n : Int} (h : (n == 40) = false ∧ (n == 91) = false ∧ (n == 41) = false ∧ (n == 93) = false ∧ (n == 97) = false ∧ (n == 98) = false) : symNo n = -1 := by
  simp only [beq_eq_false_iff_ne] at h
  simp [symNo, h]

theorem spec_call (n : Int) (w : World) :
    Calls Tryz.prog 31 #[.int .u8 n] w fun e w' => e = .returned (.bool (callB n)) ∧ w = w' := by
  by_cases h1 : n = 40
  · subst h1
    go_enter Tryz.func31, Tryz.ntmps31
    go_wp2
    go_ret
    exact ⟨rfl, rfl⟩
  · by_cases h2 : n = 91
    · subst h2
      go_enter Tryz.func31, Tryz.ntmps31
      go_wp2
      go_ret
      exact ⟨rfl, rfl⟩
    · have e : callB n = false := by simp [callB, h1, h2]
      rw [e]
      have g1 : (n == 40) = false := by simpa using h1
      have g2 : (n == 91) = false := by simpa using h2
      clear h1 h2 e
      go_enter Tryz.func31, Tryz.ntmps31
      go_wp2
      go_ret
      exact ⟨rfl, rfl⟩

theorem spec_return (n : Int) (w : World) :
    Calls Tryz.prog 32 #[.int .u8 n] w fun e w' => e = .returned (.bool (retB n)) ∧ w = w' := by
  by_cases h1 : n = 41
  · subst h1
    go_enter Tryz.func32, Tryz.ntmps32
    go_wp2
    go_ret
    exact ⟨rfl, rfl⟩
  · by_cases h2 : n = 93
    · subst h2
      go_enter Tryz.func32, Tryz.ntmps32
      go_wp2
      go_ret
      exact ⟨rfl, rfl⟩
    · have e : retB n = false := by simp [retB, h1, h2]
      rw [e]
      have g1 : (n == 41) = false := by simpa using h1
      have g2 : (n == 93) = false := by simpa using h2
      clear h1 h2 e
      go_enter Tryz.func32, Tryz.ntmps32
      go_wp2
      go_ret
      exact ⟨rfl, rfl⟩

set_option maxHeartbeats 1600000 in
theorem spec_symbol (n : Int) (w : World) :
    Calls Tryz.prog 46 #[.int .u8 n] w fun e w' => e = .returned (.int .i64 (symNo n)) ∧ w = w' := by
  have e0 : (({ data := #[40, 91, 41, 93, 97, 98] } : ByteArray)[0]'(by decide)).toNat = 40 := rfl
  have e1 : (({ data := #[40, 91, 41, 93, 97, 98] } : ByteArray)[1]'(by decide)).toNat = 91 := rfl
  have e2 : (({ data := #[40, 91, 41, 93, 97, 98] } : ByteArray)[2]'(by decide)).toNat = 41 := rfl
  have e3 : (({ data := #[40, 91, 41, 93, 97, 98] } : ByteArray)[3]'(by decide)).toNat = 93 := rfl
  have e4 : (({ data := #[40, 91, 41, 93, 97, 98] } : ByteArray)[4]'(by decide)).toNat = 97 := rfl
  have e5 : (({ data := #[40, 91, 41, 93, 97, 98] } : ByteArray)[5]'(by decide)).toNat = 98 := rfl
  rcases sym_cases n with rfl | rfl | rfl | rfl | rfl | rfl | h
  case inr.inr.inr.inr.inr.inr =>
    rw [symNo_none h]
    obtain ⟨h1, h2, h3, h4, h5, h6⟩ := h
    have f1 : ((40 : Int) == n) = false := by rw [BEq.comm]; exact h1
    have f2 : ((91 : Int) == n) = false := by rw [BEq.comm]; exact h2
    have f3 : ((41 : Int) == n) = false := by rw [BEq.comm]; exact h3
    have f4 : ((93 : Int) == n) = false := by rw [BEq.comm]; exact h4
    have f5 : ((97 : Int) == n) = false := by rw [BEq.comm]; exact h5
    have f6 : ((98 : Int) == n) = false := by rw [BEq.comm]; exact h6
    clear h1 h2 h3 h4 h5 h6
    go_enter Tryz.func46, Tryz.ntmps46
    go_wp2
    refine wp_loop_rounds 7 ?_
    repeat (rw [rounds_succ]; go_wp2)
    go_ret
    exact ⟨rfl, rfl⟩
  all_goals
    go_enter Tryz.func46, Tryz.ntmps46
    go_wp2
    refine wp_loop_rounds 7 ?_
    repeat (rw [rounds_succ]; go_wp2)
    go_ret
    exact ⟨rfl, rfl⟩


/-! The program's symbols are the numbers 0 to 5. -/
def callS (n : Int) : Bool := decide (n ≤ 1)
def retS (n : Int) : Bool := decide (n = 2 ∨ n = 3)
def turnS (n : Int) : Int := if n = 0 then 2 else if n = 1 then 3 else if n = 2 then 0 else if n = 3 then 1 else n
/-- The byte of a symbol's number. -/
def byteOf (n : Int) : UInt8 := if n = 0 then 40 else if n = 1 then 91 else if n = 2 then 41 else if n = 3 then 93 else if n = 4 then 97 else 98
theorem six (n : Int) (h : 0 ≤ n ∧ n ≤ 5) : n = 0 ∨ n = 1 ∨ n = 2 ∨ n = 3 ∨ n = 4 ∨ n = 5 := by omega

theorem impl_isCall (n : Int) (w : World) :
    Calls Tryz.prog 86 #[.int .u8 n] w fun e w' => e = .returned (.bool (callS n)) ∧ w = w' := by
  go_enter Tryz.func86, Tryz.ntmps86
  go_wp2
  go_ret
  exact ⟨rfl, rfl⟩

theorem impl_isReturn (n : Int) (w : World) (h : 0 ≤ n ∧ n ≤ 5) :
    Calls Tryz.prog 87 #[.int .u8 n] w fun e w' => e = .returned (.bool (retS n)) ∧ w = w' := by
  rcases six n h with rfl | rfl | rfl | rfl | rfl | rfl
  all_goals
    go_enter Tryz.func87, Tryz.ntmps87
    go_wp2
    go_ret
    exact ⟨rfl, rfl⟩


theorem impl_text (n : Int) (w : World) (h : 0 ≤ n ∧ n ≤ 5) :
    Calls Tryz.prog 99 #[.int .u8 n] w fun e w' => e = .returned (.string ⟨#[byteOf n]⟩) ∧ w = w' := by
  rcases six n h with rfl | rfl | rfl | rfl | rfl | rfl
  all_goals
    go_enter Tryz.func99, Tryz.ntmps99
    go_wp2
    go_ret
    exact ⟨rfl, rfl⟩
end Go.Proofs.YtblgjedjljfmcaaGreatDoor
/- Plain mathematics of nested words: the matching as a fold over kinds (0 a call, 1 a return, 2 inner). Imports nothing of the translation. -/
namespace Go.Proofs.YtblgjedjljfmcaaGreatDoor

theorem snoc_ind {α : Type} {p : List α → Prop} (h0 : p []) (hs : ∀ l a, p l → p (l ++ [a])) (l : List α) : p l := by
  rw [← List.reverse_reverse l]
  induction l.reverse with
  | nil => exact h0
  | cons a l ih => rw [List.reverse_cons]; exact hs _ _ ih

def pstep (st : List Int × List Nat) (k : Nat) : List Int × List Nat :=
  if k = 0 then (st.1 ++ [-2], st.2 ++ [st.1.length])
  else if k = 1 then
    match st.2.getLast? with
    | some a => (st.1.set a st.1.length ++ [(a : Int)], st.2.dropLast)
    | none => (st.1 ++ [-2], st.2)
  else (st.1 ++ [-1], st.2)

def pst (ks : List Nat) : List Int × List Nat := ks.foldl pstep ([], [])
/-- The partners, as numbers. -/
def prts (ks : List Nat) : List Int := (pst ks).1
/-- The places of the open calls, the last one last. -/
def opns (ks : List Nat) : List Nat := (pst ks).2

theorem pst_snoc (ks : List Nat) (k : Nat) : pst (ks ++ [k]) = pstep (pst ks) k := by simp [pst, List.foldl_append]

theorem take_snoc {α : Type} (l : List α) (k : Nat) (h : k < l.length) : l.take (k + 1) = l.take k ++ [l[k]] := by
  rw [List.take_succ_eq_append_getElem h]

theorem pstep_len (st : List Int × List Nat) (k : Nat) : (pstep st k).1.length = st.1.length + 1 := by
  unfold pstep
  split
  · simp
  · split
    · split <;> simp
    · simp

theorem prts_len (ks : List Nat) : (prts ks).length = ks.length := by
  refine snoc_ind (p := fun ks => (prts ks).length = ks.length) ?_ (fun l a ih => ?_) ks
  · rfl
  · have := pstep_len (pst l) a
    simp only [prts, pst_snoc, List.length_append, List.length_singleton] at ih ⊢
    omega

theorem opns_lt (ks : List Nat) : ∀ a ∈ opns ks, a < ks.length := by
  refine snoc_ind (p := fun ks => ∀ a ∈ opns ks, a < ks.length) ?_ (fun l k ih => ?_) ks
  · intro a h; simp [opns, pst] at h
  · intro a h
    have hl := prts_len l
    simp only [prts] at hl
    simp only [opns, pst_snoc] at h ih
    simp only [List.length_append, List.length_singleton]
    unfold pstep at h
    split at h
    · simp only [List.mem_append, List.mem_singleton] at h
      rcases h with h | h
      · have := ih a h; omega
      · omega
    · split at h
      · split at h
        · have := ih a (List.dropLast_subset _ h); omega
        · have := ih a h; omega
      · have := ih a h; omega

theorem opns_len (ks : List Nat) : (opns ks).length ≤ ks.length := by
  refine snoc_ind (p := fun ks => (opns ks).length ≤ ks.length) ?_ (fun l k ih => ?_) ks
  · simp [opns, pst]
  · simp only [opns, pst_snoc, List.length_append, List.length_singleton] at ih ⊢
    unfold pstep
    split
    · simp; omega
    · split
      · split
        · simp; omega
        · simp; omega
      · simp; omega

/-! One step, by the kind. -/
theorem prts_call (ks : List Nat) : prts (ks ++ [0]) = prts ks ++ [-2] ∧ opns (ks ++ [0]) = opns ks ++ [ks.length] := by
  have := prts_len ks
  simp only [prts, opns, pst_snoc, pstep] at this ⊢
  simp [this]
theorem prts_ret_none (ks : List Nat) (h : opns ks = []) : prts (ks ++ [1]) = prts ks ++ [-2] ∧ opns (ks ++ [1]) = [] := by
  simp only [opns] at h
  simp [prts, opns, pst_snoc, pstep, h]
theorem prts_ret_some (ks : List Nat) (a : Nat) (h : (opns ks).getLast? = some a) :
    prts (ks ++ [1]) = (prts ks).set a ks.length ++ [(a : Int)] ∧ opns (ks ++ [1]) = (opns ks).dropLast := by
  have hl := prts_len ks
  simp only [opns, prts] at h hl
  simp [prts, opns, pst_snoc, pstep, h, hl]
theorem prts_inner (ks : List Nat) (k : Nat) (h0 : k ≠ 0) (h1 : k ≠ 1) : prts (ks ++ [k]) = prts ks ++ [-1] ∧ opns (ks ++ [k]) = opns ks := by
  simp [prts, opns, pst_snoc, pstep, h0, h1]

/-! A row that is filled from its head. -/
theorem fill_at {α : Type} (L : List α) (m : Nat) (z v : α) (k : Nat) (hk : L.length = k) :
    (L ++ List.replicate (m + 1) z).set k v = (L ++ [v]) ++ List.replicate m z := by
  subst hk
  rw [List.set_append_right _ _ (Nat.le_refl _)]
  simp [List.replicate_succ]
theorem fill_two {α : Type} (L : List α) (m : Nat) (z v u : α) (k a : Nat) (hk : L.length = k) (ha : a < k) :
    ((L ++ List.replicate (m + 1) z).set a u).set k v = (L.set a u ++ [v]) ++ List.replicate m z := by
  rw [List.set_append_left _ _ (by omega)]
  exact fill_at (L.set a u) m z v k (by simpa using hk)
end Go.Proofs.YtblgjedjljfmcaaGreatDoor
