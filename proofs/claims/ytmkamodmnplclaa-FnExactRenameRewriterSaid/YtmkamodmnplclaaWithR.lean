/- rewriterWith of the program, with options that are known by contracts. -/
import Derived.Test.YtmkamodmnplclaaWithR1
import Derived.Test.YtmkamodmnplclaaMapO
import Derived.BigRegion
import Derived.Deep.DeepCutAuto
namespace Go.Proofs.Ytmkamodmnplclaa
open Go.RowKit
set_option linter.unusedVariables false


def FarB (T8 T10 T4 : Nat) (bs : List Nat) : Prop := T8 ∉ bs ∧ T10 ∉ bs ∧ T4 ∉ bs
/-- What an option is: a function that makes one rewriter of another one, in place. -/
def OptC (w : World) (f : FuncId) (cap : Array Value) (c d : Rw) : Prop := ∀ (W : World) (base b : Nat) (b1 b2 b3 : List Nat), w.heap.size ≤ base → Below w.heap.size w W → RwAt base W b c b1 b2 b3 →
  Calls Try.prog f (#[.pointer (some ⟨b, 0, none⟩)] ++ cap) W fun e W' => e = .returned (.tuple #[]) ∧ RwAt base W' b d b1 b2 b3 ∧ Below base W W'
/-- The options, one behind the other, make seq (i + 1) of seq i. -/
def OptsC (w : World) (N : Nat) (v : Value) (seq : Nat → Rw) : Prop := ∃ A cap, v = .slice A N cap ∧ ∀ i, i < N → ∃ g f fc, A = some ⟨g, 0, none⟩ ∧ w.cell? ⟨g, i, none⟩ = some (.func (.func f) #[] fc) ∧ (∀ args w, (callFunc f args).run Try.prog w = .ok (.enter f args) w) ∧ OptC w f fc (seq i) (seq (i + 1))

set_option maxHeartbeats 25600000 in
set_option maxRecDepth 100000 in
theorem impl_with (n m N : Nat) (seq : Nat → Rw) (v : Value) (w : World) (hn : n ≤ 2) (hm : m = 1 ∨ m = 2) (hN : N ≤ 100) (h0 : seq 0 = plainRw n m) (hv : OptsC w N v seq) :
    Calls Try.prog 45 #[.int .i64 (n : Int), .int .i64 (m : Int), v] w (NewPost RwE (seq N) w) := by
  obtain ⟨i1, ha1, ha2, ha3, ha4⟩ := info_parts toInfo_ops
  obtain ⟨i2, hb1, hb2, hb3, hb4⟩ := info_parts toInfo_oms
  obtain ⟨i3, hc1, hc2, hc3, hc4⟩ := info_parts toInfo_oms2
  obtain ⟨A, vcap, rfl, hopt⟩ := hv
  have hm2 : m ≤ 2 := by omega
  have hany : ∀ (s : Int) (T8 T10 T4 : Nat) (x : Int) (W : World), 0 ≤ x ∧ x ≤ 5 → W.cell? ⟨T10, 0, none⟩ = some (.func (.func 84) #[] #[.pointer (some ⟨T8, 0, none⟩)]) → W.cell? ⟨T8, 0, none⟩ = some (.int .i64 s) → W.cell? ⟨T4, 0, none⟩ = some (.int .i64 m) →
      Calls Try.prog 85 #[.int .u8 x, .pointer (some ⟨T10, 0, none⟩), .pointer (some ⟨T4, 0, none⟩)] W (NewPost OmE (List.replicate (m + 1) (s, ⟨#[byteOf x]⟩)) W) := by
    intro s T8 T10 T4 x W hx h1 h2 h3
    rcases hm with rfl | rfl
    · exact rw_any1 x s T8 T10 T4 W hx h1 h2 h3
    · exact rw_any2 x s T8 T10 T4 W hx h1 h2 h3
  have HAny := Lib.hid hany
  have Hopt := Lib.hid hopt
  have H0 := Lib.hid h0
  have hBr := ((Below.refl w.heap.size w).alloc (Nat.le_refl _) (.cells #[.int .i64 m] 2)).alloc (by simp) (.cells #[.int .i64 0, .int .i64 0, .slice none 0 0, .slice none 0 0, .slice none 0 0] 36)
  have hres := Bx.new (w.alloc (.cells #[.int .i64 m] 2)) 36 #[.int .i64 0, .int .i64 0, .slice none 0 0, .slice none 0 0, .slice none 0 0]
  have hmar := (Bx.new w 2 #[.int .i64 m]).alloc (.cells #[.int .i64 0, .int .i64 0, .slice none 0 0, .slice none 0 0, .slice none 0 0] 36)
  rw [World.size_alloc] at hres
  obtain ⟨Wr, hWr⟩ : ∃ Wr, Wr = (w.alloc (.cells #[.int .i64 m] 2)).alloc (.cells #[.int .i64 0, .int .i64 0, .slice none 0 0, .slice none 0 0, .slice none 0 0] 36) := ⟨_, rfl⟩
  rw [← hWr] at hBr hres hmar
  have hB1 := (Below.refl Wr.heap.size Wr).alloc (Nat.le_refl _) (.cells #[.int .i64 m, .int .i64 0, .slice none 0 0, .slice none 0 0, .slice none 0 0] 36)
  have hbox := plain_at0 (base := Wr.heap.size) Wr m (Nat.le_refl _)
  obtain ⟨b, hb⟩ : ∃ b, b = Wr.heap.size := ⟨_, rfl⟩
  obtain ⟨W1, hW1⟩ : ∃ W1, W1 = Wr.alloc (.cells #[.int .i64 m, .int .i64 0, .slice none 0 0, .slice none 0 0, .slice none 0 0] 36) := ⟨_, rfl⟩
  rw [← hW1] at hB1 hbox
  have hbox : RwAt Wr.heap.size W1 b (plainRw 0 m) [] [] [] := by rw [hb]; exact hbox
  have HR := Lib.hid (And.intro hBr (And.intro hres.lt (And.intro hres hmar)))
  have HG := Lib.hid (And.intro hbox hB1)
  have HW := Lib.hid (And.intro hWr (And.intro hW1 hb))
  have hmw : Wr.cell? ⟨w.heap.size, 0, none⟩ = some (.int .i64 m) := hmar.cell 0 _ rfl
  have hml : w.heap.size < Wr.heap.size := hmar.lt
  clear hBr hres hmar hB1 hbox hWr hW1 hb hany hopt h0 hm
  go_enter Try.func45, Try.ntmps45
  go_upto_region 2 with fail
  have hz : w.heap.size + 1 + 1 = b := by rw [HW.out.2.2, HW.out.1, World.size_alloc, World.size_alloc]
  rw [← HW.out.1, ← HW.out.2.1]
  try rw [hz]
  clear hz
  go_wp2_with fail
  go_loopw [17] (fun i wr => ∃ k : Nat, k ≤ n ∧ i = .int .i64 k ∧ (∃ b1 b2 b3, RwAt Wr.heap.size wr b (plainRw k m) b1 b2 b3) ∧ Below Wr.heap.size Wr wr) (fun i _ => n - (intOf i).toNat)
  case atStart => exact ⟨0, Nat.zero_le _, rfl, ⟨_, _, _, HG.out.1⟩, HG.out.2⟩
  case round =>
    obtain ⟨k, hk, rfl, ⟨b1, b2, b3, hA⟩, hB⟩ := hrel
    obtain ⟨wo, rfl⟩ : ∃ y, y = wr := ⟨_, rfl⟩
    by_cases hlt : k < n
    · have hszo := hB.size
      obtain ⟨T8, hT8⟩ : ∃ x, x = wo.heap.size := ⟨_, rfl⟩
      obtain ⟨T10, hT10⟩ : ∃ x, x = wo.heap.size + 1 := ⟨_, rfl⟩
      have x8 := (Bx.new wo 2 #[.int .i64 k]).alloc (.cells #[.func (.func 84) #[] #[.pointer (some ⟨wo.heap.size, 0, none⟩)]] 120)
      have x10 := Bx.new (wo.alloc (.cells #[.int .i64 k] 2)) 120 #[.func (.func 84) #[] #[.pointer (some ⟨wo.heap.size, 0, none⟩)]]
      have hBx := ((Below.refl wo.heap.size wo).alloc (Nat.le_refl _) (.cells #[.int .i64 k] 2)).alloc (by simp) (.cells #[.func (.func 84) #[] #[.pointer (some ⟨wo.heap.size, 0, none⟩)]] 120)
      rw [World.size_alloc] at x10
      obtain ⟨X0, hX0⟩ : ∃ x, x = (wo.alloc (.cells #[.int .i64 k] 2)).alloc (.cells #[.func (.func 84) #[] #[.pointer (some ⟨wo.heap.size, 0, none⟩)]] 120) := ⟨_, rfl⟩
      rw [← hX0] at x8 x10 hBx
      have hBX0 : Below Wr.heap.size Wr X0 := hB.trans (hBx.mono hszo)
      have xm : Bx X0 w.heap.size 2 #[.int .i64 m] := HR.out.2.2.2.same (hBX0.block _ hml)
      have hlo := hA.lt
      have far : ∀ bs : List Nat, (∀ q ∈ bs, Wr.heap.size ≤ q ∧ q < wo.heap.size) → FarB T8 T10 w.heap.size bs := fun bs h => ⟨fun h1 => by have := h _ h1; omega, fun h1 => by have := h _ h1; omega, fun h1 => by have := h _ h1; omega⟩
      have HA_X0 := Lib.hid (And.intro (hA.later hBx) (And.intro hBX0 (plainRw_len k m)))
      have HCl_X0 := Lib.hid (show Bx X0 T8 2 #[.int .i64 k] ∧ Bx X0 T10 120 #[.func (.func 84) #[] #[.pointer (some ⟨T8, 0, none⟩)]] ∧ Bx X0 w.heap.size 2 #[.int .i64 m] ∧ (T8 ≠ b ∧ T10 ≠ b ∧ w.heap.size ≠ b) ∧ FarB T8 T10 w.heap.size b1 ∧ FarB T8 T10 w.heap.size b2 ∧ FarB T8 T10 w.heap.size b3 from
        ⟨by rw [hT8]; exact x8, by rw [hT8, hT10]; exact x10, xm, ⟨by have := hlo.1; omega, by have := hlo.1; omega, by have := hA.hb; omega⟩, far _ hlo.2.1, far _ hlo.2.2.1, far _ hlo.2.2.2⟩)
      have Hany := Lib.hid (fun x W => HAny.out (k : Int) T8 T10 w.heap.size x W)
      have HX0 := Lib.hid hX0
      have HT := Lib.hid (And.intro hT8 hT10)
      have hk3 : k ≤ 3 := by omega
      clear hA hB hT8 hT10 x8 x10 hBx hX0 hBX0 xm hlo far hszo
      go_upto_region 8 with fail
      rw [← HT.out.2]
      rw [← HX0.out]
      rw [← HT.out.1]
      obtain ⟨hA, hBX, hL0, hL1, hL2⟩ := HA_X0.out
      obtain ⟨v0, v1, v2, xb, f0, f1, f2⟩ := hA.ex
      obtain ⟨A0, ka, rfl⟩ := ManyE.slice f0
      rw [hL0] at xb f0
      have hc := xb.cell 2 _ rfl
      have hbl := xb.lt
      have hbase : Wr.heap.size ≤ X0.heap.size := hBX.size
      have HX := Lib.hid (And.intro f0 (And.intro hL0 (And.intro hc (And.intro hA (And.intro xb hBX)))))
      clear hA hBX hL0 hL1 hL2 xb f0 f1 f2 hc
      go_upto_region 8 with fail
      refine wp_region_free_seq (by kernel_rfl) [
          .val [] (fun _ => .pointer (some ⟨b, 2, none⟩)),
          .val [] (fun _ => .slice A0 k ka),
          .own (SymE X0.heap.size) [0, 1],
          .val [] (fun _ => .func (.func 83) #[] #[.pointer (some ⟨T8, 0, none⟩)]),
          .own (OpE X0.heap.size) (List.map (fun x : Int => ((k : Int), (0 : Int), (⟨#[byteOf x]⟩ : ByteArray))) [0, 1]),
          .dep 4 (fun r => LitF X0.heap.size 76 #[r] 1) ()] 6 ?hp ?hfw ?deps ?oks ?hforced ?hf ?steps ?tail
      case hp => kernel_rfl
      case hfw => kernel_rfl
      case deps => kernel_rfl
      case hforced => kernel_rfl
      case hf => kernel_rfl
      case oks =>
        intro F hF
        simp only [List.mem_cons, List.not_mem_nil, or_false] at hF
        rcases hF with rfl | rfl | rfl | rfl | rfl | rfl
        all_goals first | trivial | exact ⟨_, sym_ok _⟩ | exact ⟨_, op_ok _⟩ | exact fun v => ⟨_, litf_ok _ _ _ _⟩
      case steps =>
        refine Steps.cons ?_ ?_
        · intro _
          refine FreeStep.val [] _ rfl rfl fun u β W hW hn fr hfr K hK => ?_
          simp only [frameL, putL, Act.put, List.setIfInBounds_toArray, List.set_cons_zero, List.set_cons_succ, Nat.zero_add, Nat.reduceAdd] at hfr
          subst hfr
          have HK := Lib.hid hK
          clear hK hn
          go_simp
          have h9 := HK.out
          revert h9
          clear HK
          go_simp
          try exact id
        refine Steps.cons ?_ ?_
        · intro _
          refine FreeStep.val [] _ rfl rfl fun u β W hW hn fr hfr K hK => ?_
          simp only [frameL, putL, Act.put, List.setIfInBounds_toArray, List.set_cons_zero, List.set_cons_succ, Nat.zero_add, Nat.reduceAdd] at hfr
          subst hfr
          have e0 : u 0 = .pointer (some ⟨b, 2, none⟩) := Have.get (k := 0) hn rfl
          simp only [e0] at hK
          have c0 := cellL HX.out.2.2.1 hW
          have HK := Lib.hid hK
          clear hK hn
          go_simp
          have h9 := HK.out
          revert h9
          clear HK
          go_simp
          try exact id
        refine Steps.cons ?_ ?_
        · intro _
          refine FreeStep.own (base := X0.heap.size) rfl (sym_ok _) fun u β W hW hn fr hfr K hK => ?_
          simp only [frameL, putL, Act.put, List.setIfInBounds_toArray, List.set_cons_zero, List.set_cons_succ, Nat.zero_add, Nat.reduceAdd] at hfr
          subst hfr
          have hsz := hW.size
          have HK := Lib.hid hK
          clear hK hn
          go_simp
          refine (impl_bothCalls _).mono ?_
          rintro e w1 ⟨v1, bs1, rfl, E1, hb1⟩
          exact HK.out v1 bs1 w1 hb1 (sym_base hsz _ _ _ _ E1) (fun b hb => ((sym_ok _).lt E1 b hb).1)
        refine Steps.cons ?_ ?_
        · intro _
          refine FreeStep.val [] _ rfl rfl fun u β W hW hn fr hfr K hK => ?_
          simp only [frameL, putL, Act.put, List.setIfInBounds_toArray, List.set_cons_zero, List.set_cons_succ, Nat.zero_add, Nat.reduceAdd] at hfr
          subst hfr
          have HK := Lib.hid hK
          clear hK hn
          go_simp
          have h9 := HK.out
          revert h9
          clear HK
          go_simp
          try exact id
        refine Steps.cons ?_ ?_
        · intro _
          refine FreeStep.own (base := X0.heap.size) rfl (op_ok _) fun u β W hW hn fr hfr K hK => ?_
          simp only [frameL, putL, Act.put, List.setIfInBounds_toArray, List.set_cons_zero, List.set_cons_succ, Nat.zero_add, Nat.reduceAdd] at hfr
          subst hfr
          have e3 : u 3 = .func (.func 83) #[] #[.pointer (some ⟨T8, 0, none⟩)] := Have.get (k := 3) hn rfl
          have f2_ : SymE X0.heap.size W (u 2) [0, 1] (β 2) := Have.get (k := 2) hn rfl
          simp only [e3] at hK
          have hsz := hW.size
          have HQ := Lib.hid (mapped_sym_op W (fun x : Int => ((k : Int), (0 : Int), (⟨#[byteOf x]⟩ : ByteArray))) 83 (#[.pointer (some ⟨T8, 0, none⟩)]) cfR1 (by decide) f2_ (fun x hx W' hW' => rw_push x k T8 W' (by simp at hx; omega) (cellL (HCl_X0.out.1.cell 0 _ rfl) (hW.trans (hW'.mono hW.size)))))
          have HK := Lib.hid hK
          clear hK hn f2_
          go_simp
          refine HQ.out.mono ?_
          rintro e w1 ⟨v1, bs1, rfl, E1, hb1⟩
          exact HK.out v1 bs1 w1 hb1 (ops_base hsz _ _ _ _ E1) (fun b hb => ((op_ok _).lt E1 b hb).1)
        refine Steps.cons ?_ ?_
        · intro _
          refine FreeStep.dep (base := X0.heap.size) rfl (by decide) (fun v => litf_ok _ _ _ _) fun u β W hW hn fr hfr K hK => ?_
          simp only [frameL, putL, Act.put, List.setIfInBounds_toArray, List.set_cons_zero, List.set_cons_succ, Nat.zero_add, Nat.reduceAdd] at hfr
          subst hfr
          have f4 : OpE X0.heap.size W (u 4) (List.map (fun x : Int => ((k : Int), (0 : Int), (⟨#[byteOf x]⟩ : ByteArray))) [0, 1]) (β 4) := Have.get (k := 4) hn rfl
          obtain ⟨A4, k4, g4⟩ := RowE.slice f4
          have H4 := Lib.hid g4
          have hsz := hW.size
          have HK := Lib.hid hK
          clear hK hn f4
          rw [g4] at HK ⊢
          go_simp
          exact HK.out _ [W.heap.size] _ ((Below.refl _ _).alloc (Nat.le_refl _) _) (LitF.new _ _ _ W hsz) (fun b hb => by rw [List.mem_singleton.1 hb]; exact Nat.le_refl _)
        exact ⟨fun h => absurd h (by decide), fun h => absurd h (by decide), fun h => absurd h (by decide), trivial⟩
      case tail =>
        intro u β W hW hn hdis hbnd fr hfr
        simp only [frameL, putL, Act.put, List.setIfInBounds_toArray, List.set_cons_zero, List.set_cons_succ, Nat.zero_add, Nat.reduceAdd] at hfr
        subst hfr
        have eL : u 1 = .slice A0 k ka := Have.get (k := 1) hn rfl
        have fO : LitF X0.heap.size 76 #[u 4] 1 W (u 5) () (β 5) := Have.get (k := 5) hn rfl
        have f4 : OpE X0.heap.size W (u 4) (List.map (fun x : Int => ((k : Int), (0 : Int), (⟨#[byteOf x]⟩ : ByteArray))) [0, 1]) (β 4) := Have.get (k := 4) hn rfl
        obtain ⟨A4, n4, k4, g4⟩ : ∃ A n k, u 4 = .slice A n k := by obtain ⟨A, k, e⟩ := RowE.slice f4; exact ⟨_, _, _, e⟩
        rw [g4] at f4 fO
        obtain ⟨bo, go, hbo, _, hlo⟩ := fO
        have hr : OpE X0.heap.size W (.slice A4 n4 k4) (plCall k) (β 4) := f4
        obtain ⟨f0, hL, hc, hA, xb, hBX⟩ := HX.out
        obtain ⟨vs, hrow', _⟩ := ((op2_ok _).later f0 hW).held
        rw [hL] at hrow'
        have hG := Lib.hid (fun (w5 : World) (g1 cap1 : Nat) (hown : w5.ownsRow Wr.heap.size 76 1 (.slice (some ⟨g1, 0, none⟩) (k + 1) cap1) (k + 1) (vs ++ [.slice A4 n4 k4])) (hg : W.grownBy w5 (Value.slice A0 k ka).ownBlock) (hat : (Value.slice A0 k ka).ownBlock = some g1 ∨ g1 = W.heap.size) =>
          And.intro (hA.grow_call hc hbase hW hr hL hrow' hown hg rfl hat) (hA.boxed_call xb hc hW hg))
        have hw0 : Wr.heap.size ≤ W.heap.size := Nat.le_trans hbase hW.size
        clear f0 hL hc hA xb f4 hn hdis hbnd hr
        show wpOps _ _ _ [6, 7, 8] _ _
        rw [wpOps_cons]
        refine wpOp_step rfl (fun K hK => ?_)
        refine step_append_lies _ rfl _ _ 32 rfl Wr.heap.size 76 i1 (.slice none 0 0) 1 24 Try.underlying32 ha1 ha2 ha3 ha4 rfl (by decide) _ k _ eL hrow' ⟨bo, 0, none⟩ 1 1 [.slice A4 n4 k4] go rfl (World.news_of_block hbo) (one_sing rfl) (by decide) ?c1 ?c2 ?c3 _ rfl ?_
        case c1 => unfold maxLen; omega
        case c2 => omega
        case c3 => exact hw0
        intro g1 cap1 w5 hown hg5 hat hltg
        refine hK _ _ ?_
        obtain ⟨⟨e, hA2, hB2, hfr2⟩, hb5⟩ := hG.out w5 g1 cap1 hown hg5 hat
        have q3 := hb5.cell 2 _ rfl
        have q4 := hb5.frozen 2
        have hbl5 := hb5.lt
        have HA2 := Lib.hid (And.intro hA2 (And.intro hB2 (And.intro hfr2 hBX)))
        clear hown hg5 hat hK hb5 hA2 hB2 hfr2 hrow' hltg hBX
        rw [wpOps_cons]
        refine wpOp_step rfl (fun K2 hK => ?_)
        go_simp
        refine hK _ _ ?_
        clear hK
        rw [wpOps_cons]
        refine wpOp_step rfl (fun K3 hK => ?_)
        go_simp
        refine hK _ _ ?_
        clear hK
        unfold wpOps
        obtain ⟨hA2, hB2, hfr2, hBX⟩ := HA2.out
        obtain ⟨X1, hX1⟩ : ∃ X1, X1 = w5.setCell ⟨b, 2, none⟩ (.slice (some ⟨g1, 0, none⟩) (k + 1) cap1) := ⟨_, rfl⟩
        rw [← hX1] at hA2 hB2 hfr2 ⊢
        have HA_X1 := Lib.hid (And.intro hA2 (And.intro (hBX.trans hB2) (RwLen.call (r := (plCall k)) HA_X0.out.2.2)))
        have HCl_X1 := Lib.hid (show Bx X1 T8 2 #[.int .i64 k] ∧ Bx X1 T10 120 #[.func (.func 84) #[] #[.pointer (some ⟨T8, 0, none⟩)]] ∧ Bx X1 w.heap.size 2 #[.int .i64 m] ∧ (T8 ≠ b ∧ T10 ≠ b ∧ w.heap.size ≠ b) ∧ FarB T8 T10 w.heap.size b2 ∧ FarB T8 T10 w.heap.size b3 by
          obtain ⟨h1, h2, h3, h4, h5⟩ := HCl_X0.out
          exact ⟨h1.same (hfr2 _ h1.lt h4.1 h5.1.1), h2.same (hfr2 _ h2.lt h4.2.1 h5.1.2.1), h3.same (hfr2 _ h3.lt h4.2.2 h5.1.2.2), h4, h5.2⟩)
        clear hA2 hB2 hfr2 hX1 q3 q4 hbl5 HA2 HX hG hbl hbase hw0 hbo hlo HA_X0 HCl_X0 go eL hW g4
        generalize u 0 = s0
        generalize u 1 = s1
        generalize u 2 = s2
        generalize u 3 = s3
        generalize u 4 = s4
        generalize u 5 = s5
        obtain ⟨hA, hBX, hL0, hL1, hL2⟩ := HA_X1.out
        obtain ⟨v0, v1, v2, xb, f0, f1, f2⟩ := hA.ex
        obtain ⟨A1, ka, rfl⟩ := ManyE.slice f1
        rw [hL1] at xb f1
        have hc := xb.cell 3 _ rfl
        have hbl := xb.lt
        have hbase : Wr.heap.size ≤ X1.heap.size := hBX.size
        have HX := Lib.hid (And.intro f1 (And.intro hL1 (And.intro hc (And.intro hA (And.intro xb hBX)))))
        clear hA hBX hL0 hL1 hL2 xb f0 f1 f2 hc
        go_upto_region 9 with fail
        refine wp_region_free_seq (by kernel_rfl) [
            .val [] (fun _ => .pointer (some ⟨b, 3, none⟩)),
            .val [] (fun _ => .slice A1 k ka),
            .own (SymE X1.heap.size) [2, 3],
            .val [] (fun _ => .func (.func 85) #[] #[.pointer (some ⟨T10, 0, none⟩), .pointer (some ⟨w.heap.size, 0, none⟩)]),
            .own (Om2E X1.heap.size) (List.map (fun x : Int => List.replicate (m + 1) ((k : Int), (⟨#[byteOf x]⟩ : ByteArray))) [2, 3]),
            .dep 4 (fun r => LitF X1.heap.size 34 #[r] 1) ()] 6 ?hp ?hfw ?deps ?oks ?hforced ?hf ?steps ?tail
        case hp => kernel_rfl
        case hfw => kernel_rfl
        case deps => kernel_rfl
        case hforced => kernel_rfl
        case hf => kernel_rfl
        case oks =>
          intro F hF
          simp only [List.mem_cons, List.not_mem_nil, or_false] at hF
          rcases hF with rfl | rfl | rfl | rfl | rfl | rfl
          all_goals first | trivial | exact ⟨_, sym_ok _⟩ | exact ⟨_, om2_ok _⟩ | exact fun v => ⟨_, litf_ok _ _ _ _⟩
        case steps =>
          refine Steps.cons ?_ ?_
          · intro _
            refine FreeStep.val [] _ rfl rfl fun u β W hW hn fr hfr K hK => ?_
            simp only [frameL, putL, Act.put, List.setIfInBounds_toArray, List.set_cons_zero, List.set_cons_succ, Nat.zero_add, Nat.reduceAdd] at hfr
            subst hfr
            have HK := Lib.hid hK
            clear hK hn
            go_simp
            have h9 := HK.out
            revert h9
            clear HK
            go_simp
            try exact id
          refine Steps.cons ?_ ?_
          · intro _
            refine FreeStep.val [] _ rfl rfl fun u β W hW hn fr hfr K hK => ?_
            simp only [frameL, putL, Act.put, List.setIfInBounds_toArray, List.set_cons_zero, List.set_cons_succ, Nat.zero_add, Nat.reduceAdd] at hfr
            subst hfr
            have e0 : u 0 = .pointer (some ⟨b, 3, none⟩) := Have.get (k := 0) hn rfl
            simp only [e0] at hK
            have c0 := cellL HX.out.2.2.1 hW
            have HK := Lib.hid hK
            clear hK hn
            go_simp
            have h9 := HK.out
            revert h9
            clear HK
            go_simp
            try exact id
          refine Steps.cons ?_ ?_
          · intro _
            refine FreeStep.own (base := X1.heap.size) rfl (sym_ok _) fun u β W hW hn fr hfr K hK => ?_
            simp only [frameL, putL, Act.put, List.setIfInBounds_toArray, List.set_cons_zero, List.set_cons_succ, Nat.zero_add, Nat.reduceAdd] at hfr
            subst hfr
            have hsz := hW.size
            have HK := Lib.hid hK
            clear hK hn
            go_simp
            refine (impl_bothReturns _).mono ?_
            rintro e w1 ⟨v1, bs1, rfl, E1, hb1⟩
            exact HK.out v1 bs1 w1 hb1 (sym_base hsz _ _ _ _ E1) (fun b hb => ((sym_ok _).lt E1 b hb).1)
          refine Steps.cons ?_ ?_
          · intro _
            refine FreeStep.val [] _ rfl rfl fun u β W hW hn fr hfr K hK => ?_
            simp only [frameL, putL, Act.put, List.setIfInBounds_toArray, List.set_cons_zero, List.set_cons_succ, Nat.zero_add, Nat.reduceAdd] at hfr
            subst hfr
            have HK := Lib.hid hK
            clear hK hn
            go_simp
            have h9 := HK.out
            revert h9
            clear HK
            go_simp
            try exact id
          refine Steps.cons ?_ ?_
          · intro _
            refine FreeStep.own (base := X1.heap.size) rfl (om2_ok _) fun u β W hW hn fr hfr K hK => ?_
            simp only [frameL, putL, Act.put, List.setIfInBounds_toArray, List.set_cons_zero, List.set_cons_succ, Nat.zero_add, Nat.reduceAdd] at hfr
            subst hfr
            have e3 : u 3 = .func (.func 85) #[] #[.pointer (some ⟨T10, 0, none⟩), .pointer (some ⟨w.heap.size, 0, none⟩)] := Have.get (k := 3) hn rfl
            have f2_ : SymE X1.heap.size W (u 2) [2, 3] (β 2) := Have.get (k := 2) hn rfl
            simp only [e3] at hK
            have hsz := hW.size
            have HQ := Lib.hid (mapped_sym_oms W (fun x : Int => List.replicate (m + 1) ((k : Int), (⟨#[byteOf x]⟩ : ByteArray))) 85 (#[.pointer (some ⟨T10, 0, none⟩), .pointer (some ⟨w.heap.size, 0, none⟩)]) cfR3 (by decide) f2_ (fun x hx W' hW' => Hany.out x W' (by simp at hx; omega) (cellL (HCl_X1.out.2.1.cell 0 _ rfl) (hW.trans (hW'.mono hW.size))) (cellL (HCl_X1.out.1.cell 0 _ rfl) (hW.trans (hW'.mono hW.size))) (cellL (HCl_X1.out.2.2.1.cell 0 _ rfl) (hW.trans (hW'.mono hW.size)))))
            have HK := Lib.hid hK
            clear hK hn f2_
            go_simp
            refine HQ.out.mono ?_
            rintro e w1 ⟨v1, bs1, rfl, E1, hb1⟩
            exact HK.out v1 bs1 w1 hb1 (oms2_base hsz _ _ _ _ E1) (fun b hb => ((om2_ok _).lt E1 b hb).1)
          refine Steps.cons ?_ ?_
          · intro _
            refine FreeStep.dep (base := X1.heap.size) rfl (by decide) (fun v => litf_ok _ _ _ _) fun u β W hW hn fr hfr K hK => ?_
            simp only [frameL, putL, Act.put, List.setIfInBounds_toArray, List.set_cons_zero, List.set_cons_succ, Nat.zero_add, Nat.reduceAdd] at hfr
            subst hfr
            have f4 : Om2E X1.heap.size W (u 4) (List.map (fun x : Int => List.replicate (m + 1) ((k : Int), (⟨#[byteOf x]⟩ : ByteArray))) [2, 3]) (β 4) := Have.get (k := 4) hn rfl
            obtain ⟨A4, k4, g4⟩ := ManyE.slice f4
            have H4 := Lib.hid g4
            have hsz := hW.size
            have HK := Lib.hid hK
            clear hK hn f4
            rw [g4] at HK ⊢
            go_simp
            exact HK.out _ [W.heap.size] _ ((Below.refl _ _).alloc (Nat.le_refl _) _) (LitF.new _ _ _ W hsz) (fun b hb => by rw [List.mem_singleton.1 hb]; exact Nat.le_refl _)
          exact ⟨fun h => absurd h (by decide), fun h => absurd h (by decide), fun h => absurd h (by decide), trivial⟩
        case tail =>
          intro u β W hW hn hdis hbnd fr hfr
          simp only [frameL, putL, Act.put, List.setIfInBounds_toArray, List.set_cons_zero, List.set_cons_succ, Nat.zero_add, Nat.reduceAdd] at hfr
          subst hfr
          have eL : u 1 = .slice A1 k ka := Have.get (k := 1) hn rfl
          have fO : LitF X1.heap.size 34 #[u 4] 1 W (u 5) () (β 5) := Have.get (k := 5) hn rfl
          have f4 : Om2E X1.heap.size W (u 4) (List.map (fun x : Int => List.replicate (m + 1) ((k : Int), (⟨#[byteOf x]⟩ : ByteArray))) [2, 3]) (β 4) := Have.get (k := 4) hn rfl
          obtain ⟨A4, n4, k4, g4⟩ : ∃ A n k, u 4 = .slice A n k := by obtain ⟨A, k, e⟩ := ManyE.slice f4; exact ⟨_, _, _, e⟩
          rw [g4] at f4 fO
          obtain ⟨bo, go, hbo, _, hlo⟩ := fO
          have hr : Om2E X1.heap.size W (.slice A4 n4 k4) (plRet m k) (β 4) := f4
          obtain ⟨f1, hL, hc, hA, xb, hBX⟩ := HX.out
          obtain ⟨vs, hrow', _⟩ := ((om3_ok _).later f1 hW).held
          rw [hL] at hrow'
          have hG := Lib.hid (fun (w5 : World) (g1 cap1 : Nat) (hown : w5.ownsRow Wr.heap.size 34 1 (.slice (some ⟨g1, 0, none⟩) (k + 1) cap1) (k + 1) (vs ++ [.slice A4 n4 k4])) (hg : W.grownBy w5 (Value.slice A1 k ka).ownBlock) (hat : (Value.slice A1 k ka).ownBlock = some g1 ∨ g1 = W.heap.size) =>
            And.intro (hA.grow_ret hc hbase hW hr hL hrow' hown hg rfl hat) (hA.boxed_ret xb hc hW hg))
          have hw0 : Wr.heap.size ≤ W.heap.size := Nat.le_trans hbase hW.size
          clear f1 hL hc hA xb f4 hn hdis hbnd hr
          show wpOps _ _ _ [6, 7, 8] _ _
          rw [wpOps_cons]
          refine wpOp_step rfl (fun K hK => ?_)
          refine step_append_lies _ rfl _ _ 33 rfl Wr.heap.size 34 i3 (.slice none 0 0) 1 24 Try.underlying33 hc1 hc2 hc3 hc4 rfl (by decide) _ k _ eL hrow' ⟨bo, 0, none⟩ 1 1 [.slice A4 n4 k4] go rfl (World.news_of_block hbo) (one_sing rfl) (by decide) ?c1 ?c2 ?c3 _ rfl ?_
          case c1 => unfold maxLen; omega
          case c2 => omega
          case c3 => exact hw0
          intro g1 cap1 w5 hown hg5 hat hltg
          refine hK _ _ ?_
          obtain ⟨⟨e, hA2, hB2, hfr2⟩, hb5⟩ := hG.out w5 g1 cap1 hown hg5 hat
          have q3 := hb5.cell 3 _ rfl
          have q4 := hb5.frozen 3
          have hbl5 := hb5.lt
          have HA2 := Lib.hid (And.intro hA2 (And.intro hB2 (And.intro hfr2 hBX)))
          clear hown hg5 hat hK hb5 hA2 hB2 hfr2 hrow' hltg hBX
          rw [wpOps_cons]
          refine wpOp_step rfl (fun K2 hK => ?_)
          go_simp
          refine hK _ _ ?_
          clear hK
          rw [wpOps_cons]
          refine wpOp_step rfl (fun K3 hK => ?_)
          go_simp
          refine hK _ _ ?_
          clear hK
          unfold wpOps
          obtain ⟨hA2, hB2, hfr2, hBX⟩ := HA2.out
          obtain ⟨X2, hX1⟩ : ∃ X1, X1 = w5.setCell ⟨b, 3, none⟩ (.slice (some ⟨g1, 0, none⟩) (k + 1) cap1) := ⟨_, rfl⟩
          rw [← hX1] at hA2 hB2 hfr2 ⊢
          have HA_X2 := Lib.hid (And.intro hA2 (And.intro (hBX.trans hB2) (RwLen.ret (r := (plRet m k)) HA_X1.out.2.2)))
          have HCl_X2 := Lib.hid (show Bx X2 T8 2 #[.int .i64 k] ∧ Bx X2 T10 120 #[.func (.func 84) #[] #[.pointer (some ⟨T8, 0, none⟩)]] ∧ Bx X2 w.heap.size 2 #[.int .i64 m] ∧ (T8 ≠ b ∧ T10 ≠ b ∧ w.heap.size ≠ b) ∧ FarB T8 T10 w.heap.size b3 by
            obtain ⟨h1, h2, h3, h4, h5⟩ := HCl_X1.out
            exact ⟨h1.same (hfr2 _ h1.lt h4.1 h5.1.1), h2.same (hfr2 _ h2.lt h4.2.1 h5.1.2.1), h3.same (hfr2 _ h3.lt h4.2.2 h5.1.2.2), h4, h5.2⟩)
          clear hA2 hB2 hfr2 hX1 q3 q4 hbl5 HA2 HX hG hbl hbase hw0 hbo hlo HA_X1 HCl_X1 go eL hW g4
          generalize u 0 = s0
          generalize u 1 = s1
          generalize u 2 = s2
          generalize u 3 = s3
          generalize u 4 = s4
          generalize u 5 = s5
          obtain ⟨hA, hBX, hL0, hL1, hL2⟩ := HA_X2.out
          obtain ⟨v0, v1, v2, xb, f0, f1, f2⟩ := hA.ex
          obtain ⟨A2, ka, rfl⟩ := ManyE.slice f2
          rw [hL2] at xb f2
          have hc := xb.cell 4 _ rfl
          have hbl := xb.lt
          have hbase : Wr.heap.size ≤ X2.heap.size := hBX.size
          have HX := Lib.hid (And.intro f2 (And.intro hL2 (And.intro hc (And.intro hA (And.intro xb hBX)))))
          clear hA hBX hL0 hL1 hL2 xb f0 f1 f2 hc
          go_upto_region 10 with fail
          refine wp_region_free_seq (by kernel_rfl) [
              .val [] (fun _ => .pointer (some ⟨b, 4, none⟩)),
              .val [] (fun _ => .slice A2 k ka),
              .own (SymE X2.heap.size) [4, 5],
              .val [] (fun _ => .func (.func 84) #[] #[.pointer (some ⟨T8, 0, none⟩)]),
              .own (OmE X2.heap.size) (List.map (fun x : Int => ((k : Int), (⟨#[byteOf x]⟩ : ByteArray))) [4, 5]),
              .dep 4 (fun r => LitF X2.heap.size 79 #[r] 1) ()] 6 ?hp ?hfw ?deps ?oks ?hforced ?hf ?steps ?tail
          case hp => kernel_rfl
          case hfw => kernel_rfl
          case deps => kernel_rfl
          case hforced => kernel_rfl
          case hf => kernel_rfl
          case oks =>
            intro F hF
            simp only [List.mem_cons, List.not_mem_nil, or_false] at hF
            rcases hF with rfl | rfl | rfl | rfl | rfl | rfl
            all_goals first | trivial | exact ⟨_, sym_ok _⟩ | exact ⟨_, om_ok _⟩ | exact fun v => ⟨_, litf_ok _ _ _ _⟩
          case steps =>
            refine Steps.cons ?_ ?_
            · intro _
              refine FreeStep.val [] _ rfl rfl fun u β W hW hn fr hfr K hK => ?_
              simp only [frameL, putL, Act.put, List.setIfInBounds_toArray, List.set_cons_zero, List.set_cons_succ, Nat.zero_add, Nat.reduceAdd] at hfr
              subst hfr
              have HK := Lib.hid hK
              clear hK hn
              go_simp
              have h9 := HK.out
              revert h9
              clear HK
              go_simp
              try exact id
            refine Steps.cons ?_ ?_
            · intro _
              refine FreeStep.val [] _ rfl rfl fun u β W hW hn fr hfr K hK => ?_
              simp only [frameL, putL, Act.put, List.setIfInBounds_toArray, List.set_cons_zero, List.set_cons_succ, Nat.zero_add, Nat.reduceAdd] at hfr
              subst hfr
              have e0 : u 0 = .pointer (some ⟨b, 4, none⟩) := Have.get (k := 0) hn rfl
              simp only [e0] at hK
              have c0 := cellL HX.out.2.2.1 hW
              have HK := Lib.hid hK
              clear hK hn
              go_simp
              have h9 := HK.out
              revert h9
              clear HK
              go_simp
              try exact id
            refine Steps.cons ?_ ?_
            · intro _
              refine FreeStep.own (base := X2.heap.size) rfl (sym_ok _) fun u β W hW hn fr hfr K hK => ?_
              simp only [frameL, putL, Act.put, List.setIfInBounds_toArray, List.set_cons_zero, List.set_cons_succ, Nat.zero_add, Nat.reduceAdd] at hfr
              subst hfr
              have hsz := hW.size
              have HK := Lib.hid hK
              clear hK hn
              go_simp
              refine (impl_bothLetters _).mono ?_
              rintro e w1 ⟨v1, bs1, rfl, E1, hb1⟩
              exact HK.out v1 bs1 w1 hb1 (sym_base hsz _ _ _ _ E1) (fun b hb => ((sym_ok _).lt E1 b hb).1)
            refine Steps.cons ?_ ?_
            · intro _
              refine FreeStep.val [] _ rfl rfl fun u β W hW hn fr hfr K hK => ?_
              simp only [frameL, putL, Act.put, List.setIfInBounds_toArray, List.set_cons_zero, List.set_cons_succ, Nat.zero_add, Nat.reduceAdd] at hfr
              subst hfr
              have c0 := cellL (HCl_X2.out.2.1.cell 0 _ rfl) hW
              have HK := Lib.hid hK
              clear hK hn
              go_simp
              have h9 := HK.out
              revert h9
              clear HK
              go_simp
              try exact id
            refine Steps.cons ?_ ?_
            · intro _
              refine FreeStep.own (base := X2.heap.size) rfl (om_ok _) fun u β W hW hn fr hfr K hK => ?_
              simp only [frameL, putL, Act.put, List.setIfInBounds_toArray, List.set_cons_zero, List.set_cons_succ, Nat.zero_add, Nat.reduceAdd] at hfr
              subst hfr
              have e3 : u 3 = .func (.func 84) #[] #[.pointer (some ⟨T8, 0, none⟩)] := Have.get (k := 3) hn rfl
              have f2_ : SymE X2.heap.size W (u 2) [4, 5] (β 2) := Have.get (k := 2) hn rfl
              simp only [e3] at hK
              have hsz := hW.size
              have HQ := Lib.hid (mapped_sym_om W (fun x : Int => ((k : Int), (⟨#[byteOf x]⟩ : ByteArray))) 84 (#[.pointer (some ⟨T8, 0, none⟩)]) cfR2 (by decide) f2_ (fun x hx W' hW' => rw_stay x k T8 W' (by simp at hx; omega) (cellL (HCl_X2.out.1.cell 0 _ rfl) (hW.trans (hW'.mono hW.size)))))
              have HK := Lib.hid hK
              clear hK hn f2_
              go_simp
              refine HQ.out.mono ?_
              rintro e w1 ⟨v1, bs1, rfl, E1, hb1⟩
              exact HK.out v1 bs1 w1 hb1 (oms_base hsz _ _ _ _ E1) (fun b hb => ((om_ok _).lt E1 b hb).1)
            refine Steps.cons ?_ ?_
            · intro _
              refine FreeStep.dep (base := X2.heap.size) rfl (by decide) (fun v => litf_ok _ _ _ _) fun u β W hW hn fr hfr K hK => ?_
              simp only [frameL, putL, Act.put, List.setIfInBounds_toArray, List.set_cons_zero, List.set_cons_succ, Nat.zero_add, Nat.reduceAdd] at hfr
              subst hfr
              have f4 : OmE X2.heap.size W (u 4) (List.map (fun x : Int => ((k : Int), (⟨#[byteOf x]⟩ : ByteArray))) [4, 5]) (β 4) := Have.get (k := 4) hn rfl
              obtain ⟨A4, k4, g4⟩ := RowE.slice f4
              have H4 := Lib.hid g4
              have hsz := hW.size
              have HK := Lib.hid hK
              clear hK hn f4
              rw [g4] at HK ⊢
              go_simp
              exact HK.out _ [W.heap.size] _ ((Below.refl _ _).alloc (Nat.le_refl _) _) (LitF.new _ _ _ W hsz) (fun b hb => by rw [List.mem_singleton.1 hb]; exact Nat.le_refl _)
            exact ⟨fun h => absurd h (by decide), fun h => absurd h (by decide), fun h => absurd h (by decide), trivial⟩
          case tail =>
            intro u β W hW hn hdis hbnd fr hfr
            simp only [frameL, putL, Act.put, List.setIfInBounds_toArray, List.set_cons_zero, List.set_cons_succ, Nat.zero_add, Nat.reduceAdd] at hfr
            subst hfr
            have eL : u 1 = .slice A2 k ka := Have.get (k := 1) hn rfl
            have fO : LitF X2.heap.size 79 #[u 4] 1 W (u 5) () (β 5) := Have.get (k := 5) hn rfl
            have f4 : OmE X2.heap.size W (u 4) (List.map (fun x : Int => ((k : Int), (⟨#[byteOf x]⟩ : ByteArray))) [4, 5]) (β 4) := Have.get (k := 4) hn rfl
            obtain ⟨A4, n4, k4, g4⟩ : ∃ A n k, u 4 = .slice A n k := by obtain ⟨A, k, e⟩ := RowE.slice f4; exact ⟨_, _, _, e⟩
            rw [g4] at f4 fO
            obtain ⟨bo, go, hbo, _, hlo⟩ := fO
            have hr : OmE X2.heap.size W (.slice A4 n4 k4) (plInner k) (β 4) := f4
            obtain ⟨f2, hL, hc, hA, xb, hBX⟩ := HX.out
            obtain ⟨vs, hrow', _⟩ := ((om2_ok _).later f2 hW).held
            rw [hL] at hrow'
            have hG := Lib.hid (fun (w5 : World) (g1 cap1 : Nat) (hown : w5.ownsRow Wr.heap.size 79 1 (.slice (some ⟨g1, 0, none⟩) (k + 1) cap1) (k + 1) (vs ++ [.slice A4 n4 k4])) (hg : W.grownBy w5 (Value.slice A2 k ka).ownBlock) (hat : (Value.slice A2 k ka).ownBlock = some g1 ∨ g1 = W.heap.size) =>
              And.intro (hA.grow_inner hc hbase hW hr hL hrow' hown hg rfl hat) (hA.boxed_inner xb hc hW hg))
            have hw0 : Wr.heap.size ≤ W.heap.size := Nat.le_trans hbase hW.size
            clear f2 hL hc hA xb f4 hn hdis hbnd hr
            show wpOps _ _ _ [6, 7, 8] _ _
            rw [wpOps_cons]
            refine wpOp_step rfl (fun K hK => ?_)
            refine step_append_lies _ rfl _ _ 34 rfl Wr.heap.size 79 i2 (.slice none 0 0) 1 24 Try.underlying34 hb1 hb2 hb3 hb4 rfl (by decide) _ k _ eL hrow' ⟨bo, 0, none⟩ 1 1 [.slice A4 n4 k4] go rfl (World.news_of_block hbo) (one_sing rfl) (by decide) ?c1 ?c2 ?c3 _ rfl ?_
            case c1 => unfold maxLen; omega
            case c2 => omega
            case c3 => exact hw0
            intro g1 cap1 w5 hown hg5 hat hltg
            refine hK _ _ ?_
            obtain ⟨⟨e, hA2, hB2, hfr2⟩, hb5⟩ := hG.out w5 g1 cap1 hown hg5 hat
            have q3 := hb5.cell 4 _ rfl
            have q4 := hb5.frozen 4
            have hbl5 := hb5.lt
            have HA2 := Lib.hid (And.intro hA2 (And.intro hB2 (And.intro hfr2 hBX)))
            clear hown hg5 hat hK hb5 hA2 hB2 hfr2 hrow' hltg hBX
            rw [wpOps_cons]
            refine wpOp_step rfl (fun K2 hK => ?_)
            go_simp
            refine hK _ _ ?_
            clear hK
            rw [wpOps_cons]
            refine wpOp_step rfl (fun K3 hK => ?_)
            go_simp
            refine hK _ _ ?_
            clear hK
            unfold wpOps
            obtain ⟨hA2, hB2, hfr2, hBX⟩ := HA2.out
            obtain ⟨X3, hX1⟩ : ∃ X1, X1 = w5.setCell ⟨b, 4, none⟩ (.slice (some ⟨g1, 0, none⟩) (k + 1) cap1) := ⟨_, rfl⟩
            rw [← hX1] at hA2 hB2 hfr2 ⊢
            have HA_X3 := Lib.hid (And.intro hA2 (And.intro (hBX.trans hB2) (RwLen.inner (r := (plInner k)) HA_X2.out.2.2)))
            have HCl_X3 := Lib.hid (show Bx X3 T8 2 #[.int .i64 k] ∧ Bx X3 T10 120 #[.func (.func 84) #[] #[.pointer (some ⟨T8, 0, none⟩)]] ∧ Bx X3 w.heap.size 2 #[.int .i64 m] ∧ (T8 ≠ b ∧ T10 ≠ b ∧ w.heap.size ≠ b) ∧ True by
              obtain ⟨h1, h2, h3, h4, h5⟩ := HCl_X2.out
              exact ⟨h1.same (hfr2 _ h1.lt h4.1 h5.1), h2.same (hfr2 _ h2.lt h4.2.1 h5.2.1), h3.same (hfr2 _ h3.lt h4.2.2 h5.2.2), h4, trivial⟩)
            clear hA2 hB2 hfr2 hX1 q3 q4 hbl5 HA2 HX hG hbl hbase hw0 hbo hlo HA_X2 HCl_X2 go eL hW g4
            generalize u 0 = s0
            generalize u 1 = s1
            generalize u 2 = s2
            generalize u 3 = s3
            generalize u 4 = s4
            generalize u 5 = s5
            go_wp2
            go_roundw
            case rel => exact ⟨k + 1, by omega, by go_num, ⟨_, _, _, by rw [plainRw_succ]; exact HA_X3.out.1⟩, HA_X3.out.2.1⟩
            case measure => simp [intOf]; omega
    · have e : k = n := by omega
      have HA := Lib.hid (show (∃ b1 b2 b3, RwAt Wr.heap.size wo b (seq 0) b1 b2 b3) ∧ Below Wr.heap.size Wr wo from ⟨⟨b1, b2, b3, by rw [H0.out, ← e]; exact hA⟩, hB⟩)
      clear hA hB e
      go_wp2_with fail
      go_loopw [50] (fun i wr => ∃ q : Nat, q ≤ N ∧ i = .int .i64 q ∧ (∃ b1 b2 b3, RwAt Wr.heap.size wr b (seq q) b1 b2 b3) ∧ Below Wr.heap.size Wr wr) (fun i _ => N - (intOf i).toNat)
      case atStart => exact ⟨0, Nat.zero_le _, rfl, HA.out⟩
      case round =>
        obtain ⟨q, hq, rfl, ⟨b1', b2', b3', hA⟩, hB⟩ := hrel
        by_cases hlq : q < N
        · obtain ⟨g, ff, fc, rfl, hcl, hcf, hC⟩ := Hopt.out q hlq
          have hBw := HR.out.1.trans (hB.mono HR.out.1.size)
          have hcl2 := cellL hcl hBw
          have hbase : w.heap.size ≤ Wr.heap.size := HR.out.1.size
          have HQ := Lib.hid (hC wr Wr.heap.size b b1' b2' b3' hbase hBw hA)
          have HB := Lib.hid hB
          have hgl : g < wr.heap.size := World.block_lt_of_cell? _ _ hcl2
          clear hA hB hC hcl hBw
          go_wp2_with fail
          clear hcf
          refine HQ.out.mono ?_
          rintro e w2 ⟨rfl, hA2, hB2⟩
          have HA2 := Lib.hid (And.intro hA2 (HB.out.trans hB2))
          clear hA2 hB2 HQ HB hcl2
          go_wp2
          go_roundw
          case rel => exact ⟨q + 1, by omega, by go_num, ⟨_, _, _, HA2.out.1⟩, HA2.out.2⟩
          case measure => simp [intOf]; omega
        · have e : q = N := by omega
          subst e
          obtain ⟨A0, n0, k0, A1, n1, k1, A2, n2, k2, xb, hE⟩ := hA.value
          have xr := HR.out.2.2.1.same (hB.block _ HR.out.2.1)
          obtain ⟨z0, z1, z2, z3, z4, zl⟩ := id xb.all5
          obtain ⟨r0, r1, r2, r3, r4, rl⟩ := id xr.all5
          have q0 := xr.frozen 0
          have q1 := xr.frozen 1
          have q2 := xr.frozen 2
          have q3 := xr.frozen 3
          have q4 := xr.frozen 4
          have Hf := Lib.hid (And.intro hB hE)
          obtain ⟨s0, hs0⟩ : ∃ x, x = (seq q).stack := ⟨_, rfl⟩
          obtain ⟨s1, hs1⟩ : ∃ x, x = (seq q).start := ⟨_, rfl⟩
          rw [← hs0] at z0
          rw [← hs1] at z1
          have Hs := Lib.hid (And.intro hs0 hs1)
          clear hA hB hE xb xr hs0 hs1
          go_wp2
          obtain ⟨e0, e1⟩ := Hs.out
          have hE := Hf.out.2
          rw [← e0, ← e1] at hE
          obtain ⟨x5, hF, hBf⟩ := rw_home (x0 := .int .i64 s0) (x1 := .int .i64 s1) (x2 := .slice A0 n0 k0) (x3 := .slice A1 n1 k1) (x4 := .slice A2 n2 k2) (by omega) HR.out.1 HR.out.2.1 HR.out.2.2.1 Hf.out.1 hE
          have f0 := x5.cell 0 _ rfl
          have f1 := x5.cell 1 _ rfl
          have f2 := x5.cell 2 _ rfl
          have f3 := x5.cell 3 _ rfl
          have f4 := x5.cell 4 _ rfl
          unfold set5 at f0 f1 f2 f3 f4 hF hBf
          exact bodyPost_ret (v := .agg #[.int .i64 s0, .int .i64 s1, .slice A0 n0 k0, .slice A1 n1 k1, .slice A2 n2 k2]) (by simp [results, Try.results45, go_sem, f0, f1, f2, f3, f4]) rfl ⟨_, _, rfl, hF, hBf⟩
end Go.Proofs.Ytmkamodmnplclaa
