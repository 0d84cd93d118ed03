/- l06Plain of the model. -/
import Derived.Test.YtmkamodmnplclaaPlRM
import Derived.Test.YtmkamodmnplclaaMapped
import Derived.Test.YtmkamodmnplclaaMapO
import Derived.BigRegion
import Derived.Deep.DeepCutAuto
namespace Go.Proofs.Ytmkamodmnplclaa
open Go.RowKit
set_option linter.unusedVariables false

set_option maxHeartbeats 12800000 in
set_option maxRecDepth 100000 in
theorem spec_plainRw (n m : Nat) (w : World) (hn : n ≤ 2) (hm : m ≤ 2) :
    Calls Try.prog 44 #[.int .i64 (n : Int), .int .i64 (m : Int)] w (NewPost RwE (plainRw n m) w) := by
  obtain ⟨i1, ha1, ha2, ha3, ha4⟩ := info_parts toInfo_ops
  obtain ⟨i2, hb1, hb2, hb3, hb4⟩ := info_parts toInfo_oms
  obtain ⟨i3, hc1, hc2, hc3, hc4⟩ := info_parts toInfo_oms2
  obtain ⟨i4, hd1, hd2, hd3, hd4⟩ := info_parts toInfo_om
  have hBr := (Below.refl w.heap.size w).alloc (Nat.le_refl _) (.cells #[.int .i64 0, .int .i64 0, .slice none 0 0, .slice none 0 0, .slice none 0 0] 36)
  have hres := Bx.new w 36 #[.int .i64 0, .int .i64 0, .slice none 0 0, .slice none 0 0, .slice none 0 0]
  obtain ⟨Wr, hWr⟩ : ∃ Wr, Wr = w.alloc (.cells #[.int .i64 0, .int .i64 0, .slice none 0 0, .slice none 0 0, .slice none 0 0] 36) := ⟨_, rfl⟩
  rw [← hWr] at hBr hres
  have hB1 := (Below.refl Wr.heap.size Wr).alloc (Nat.le_refl _) (.cells #[.int .i64 m, .int .i64 0, .slice none 0 0, .slice none 0 0, .slice none 0 0] 36)
  have hbox := plain_at0 (base := Wr.heap.size) Wr m (Nat.le_refl _)
  obtain ⟨b, hb⟩ : ∃ b, b = Wr.heap.size := ⟨_, rfl⟩
  obtain ⟨W1, hW1⟩ : ∃ W1, W1 = Wr.alloc (.cells #[.int .i64 m, .int .i64 0, .slice none 0 0, .slice none 0 0, .slice none 0 0] 36) := ⟨_, rfl⟩
  rw [← hW1] at hB1 hbox
  have hbox : RwAt Wr.heap.size W1 b (plainRw 0 m) [] [] [] := by rw [hb]; exact hbox
  have HR := Lib.hid (And.intro hBr (And.intro hres.lt hres))
  have HG := Lib.hid (And.intro hbox hB1)
  have HW := Lib.hid (And.intro hWr (And.intro hW1 hb))
  clear hBr hres hB1 hbox hWr hW1 hb
  go_enter Try.func44, Try.ntmps44
  go_wp2_with fail
  have hz : w.heap.size + 1 = b := by rw [HW.out.2.2, HW.out.1, World.size_alloc]
  rw [← HW.out.1, ← HW.out.2.1]
  try rw [hz]
  clear hz
  go_loopw [6] (fun i wr => ∃ k : Nat, k ≤ n ∧ i = .int .i64 k ∧ (∃ b1 b2 b3, RwAt Wr.heap.size wr b (plainRw k m) b1 b2 b3) ∧ Below Wr.heap.size Wr wr) (fun i _ => n - (intOf i).toNat)
  case atStart => exact ⟨0, Nat.zero_le _, rfl, ⟨_, _, _, HG.out.1⟩, HG.out.2⟩
  case round =>
    obtain ⟨k, hk, rfl, ⟨b1, b2, b3, hA⟩, hB⟩ := hrel
    obtain ⟨wo, rfl⟩ : ∃ y, y = wr := ⟨_, rfl⟩
    by_cases hlt : k < n
    · have HA_wo := Lib.hid (And.intro hA (And.intro hB (plainRw_len k m)))
      clear hA hB
      obtain ⟨hA, hBX, hL0, hL1, hL2⟩ := HA_wo.out
      obtain ⟨v0, v1, v2, xb, f0, f1, f2⟩ := hA.ex
      obtain ⟨A0, k0, rfl⟩ := ManyE.slice f0
      rw [hL0] at xb f0
      have hc := xb.cell 2 _ rfl
      have hbl := xb.lt
      have hbase : Wr.heap.size ≤ wo.heap.size := hBX.size
      have hWB : Below wo.heap.size wo ((wo.alloc (.cells #[.int .i64 k, .int .i64 0, .string ⟨#[40]⟩, .int .i64 k, .int .i64 0, .string ⟨#[91]⟩] 75)).alloc (.cells #[.slice (some ⟨wo.heap.size, 0, none⟩) 2 2] 76)) := (((Below.refl _ _).alloc (Nat.le_refl _) _).alloc (by simp only [World.size_alloc]; omega) _)
      have hr : OpE wo.heap.size ((wo.alloc (.cells #[.int .i64 k, .int .i64 0, .string ⟨#[40]⟩, .int .i64 k, .int .i64 0, .string ⟨#[91]⟩] 75)).alloc (.cells #[.slice (some ⟨wo.heap.size, 0, none⟩) 2 2] 76)) (.slice (some ⟨wo.heap.size, 0, none⟩) 2 2) (plCall k) [wo.heap.size] := rowE_lit 2 ((Bx.new wo _ _).alloc _) (Nat.le_refl _) rfl rfl rfl (by unfold maxLen; omega)
      have hnb : Bx ((wo.alloc (.cells #[.int .i64 k, .int .i64 0, .string ⟨#[40]⟩, .int .i64 k, .int .i64 0, .string ⟨#[91]⟩] 75)).alloc (.cells #[.slice (some ⟨wo.heap.size, 0, none⟩) 2 2] 76)) (wo.heap.size + 1) 76 #[(.slice (some ⟨wo.heap.size, 0, none⟩) 2 2)] := (by have t := Bx.new (wo.alloc (.cells #[.int .i64 k, .int .i64 0, .string ⟨#[40]⟩, .int .i64 k, .int .i64 0, .string ⟨#[91]⟩] 75)) 76; rw [World.size_alloc] at t; exact t _)
      obtain ⟨vs, hrow, _⟩ := ((op2_ok _).later f0 hWB).held
      rw [hL0] at hrow
      have Hg := Lib.hid (fun (w5 : World) (g cap : Nat) (hown : w5.ownsRow Wr.heap.size 76 1 (.slice (some ⟨g, 0, none⟩) (k + 1) cap) (k + 1) (vs ++ [(.slice (some ⟨wo.heap.size, 0, none⟩) 2 2)])) (hg : World.grownBy ((wo.alloc (.cells #[.int .i64 k, .int .i64 0, .string ⟨#[40]⟩, .int .i64 k, .int .i64 0, .string ⟨#[91]⟩] 75)).alloc (.cells #[.slice (some ⟨wo.heap.size, 0, none⟩) 2 2] 76)) w5 (Value.slice A0 k k0).ownBlock) (hat : (Value.slice A0 k k0).ownBlock = some g ∨ g = (World.heap ((wo.alloc (.cells #[.int .i64 k, .int .i64 0, .string ⟨#[40]⟩, .int .i64 k, .int .i64 0, .string ⟨#[91]⟩] 75)).alloc (.cells #[.slice (some ⟨wo.heap.size, 0, none⟩) 2 2] 76))).size) => And.intro (hA.grow_call hc hbase hWB hr hL0 hrow hown hg rfl hat) (hA.boxed_call xb hc hWB hg))
      have HX := Lib.hid (And.intro hrow hnb)
      clear hA hBX hL0 hL1 hL2 xb f0 f1 f2 hWB hr hnb hrow
      go_wp2_with (at_builtin; refine wpList_append_lies _ rfl _ _ 32 rfl Wr.heap.size 76 i1 (.slice none 0 0) 1 24 Try.underlying32 ha1 ha2 ha3 ha4 rfl (by decide) _ k _ rfl HX.out.1 ⟨wo.heap.size + 1, 0, none⟩ 1 1 [(.slice (some ⟨wo.heap.size, 0, none⟩) 2 2)] rfl rfl (World.news_of_block HX.out.2) (one_sing rfl) (by decide) ?c1 ?c2 ?c3 _ rfl ?_)
      case c1 => unfold maxLen; omega
      case c2 => omega
      case c3 => first | omega | (simp only [World.size_alloc]; omega)
      intro g1 cap1 w5 hown hg5 hat hltg
      obtain ⟨⟨e, hA2, hB2, _⟩, hb5⟩ := Hg.out w5 g1 cap1 hown hg5 (by simpa only [World.size_alloc] using hat)
      have q3 := hb5.cell 2 _ rfl
      have q4 := hb5.frozen 2
      have hbl5 := hb5.lt
      obtain ⟨X1, hX1⟩ : ∃ X1, X1 = w5.setCell ⟨b, 2, none⟩ (.slice (some ⟨g1, 0, none⟩) (k + 1) cap1) := ⟨_, rfl⟩
      rw [← hX1] at hA2 hB2
      have HX1 := Lib.hid hX1
      have HA_X1 := Lib.hid (And.intro hA2 (And.intro (HA_wo.out.2.1.trans hB2) (RwLen.call (r := (plCall k)) HA_wo.out.2.2)))
      clear hA2 hB2 hown hg5 hat hb5 hltg hX1 hc hbl hbase Hg HX 
      go_upto_region 6 with fail
      rw [← HX1.out]
      clear q3 q4 hbl5 HX1 HA_wo
      obtain ⟨hA, hBX, hL0, hL1, hL2⟩ := HA_X1.out
      obtain ⟨v0, v1, v2, xb, f0, f1, f2⟩ := hA.ex
      obtain ⟨A2, k2, rfl⟩ := ManyE.slice f2
      rw [hL2] at xb f2
      have hc := xb.cell 4 _ rfl
      have hbl := xb.lt
      have hbase : Wr.heap.size ≤ X1.heap.size := hBX.size
      have hWB : Below X1.heap.size X1 ((X1.alloc (.cells #[.int .i64 k, .string ⟨#[97]⟩, .int .i64 k, .string ⟨#[98]⟩] 78)).alloc (.cells #[.slice (some ⟨X1.heap.size, 0, none⟩) 2 2] 79)) := (((Below.refl _ _).alloc (Nat.le_refl _) _).alloc (by simp only [World.size_alloc]; omega) _)
      have hr : OmE X1.heap.size ((X1.alloc (.cells #[.int .i64 k, .string ⟨#[97]⟩, .int .i64 k, .string ⟨#[98]⟩] 78)).alloc (.cells #[.slice (some ⟨X1.heap.size, 0, none⟩) 2 2] 79)) (.slice (some ⟨X1.heap.size, 0, none⟩) 2 2) (plInner k) [X1.heap.size] := rowE_lit 2 ((Bx.new X1 _ _).alloc _) (Nat.le_refl _) rfl rfl rfl (by unfold maxLen; omega)
      have hnb : Bx ((X1.alloc (.cells #[.int .i64 k, .string ⟨#[97]⟩, .int .i64 k, .string ⟨#[98]⟩] 78)).alloc (.cells #[.slice (some ⟨X1.heap.size, 0, none⟩) 2 2] 79)) (X1.heap.size + 1) 79 #[(.slice (some ⟨X1.heap.size, 0, none⟩) 2 2)] := (by have t := Bx.new (X1.alloc (.cells #[.int .i64 k, .string ⟨#[97]⟩, .int .i64 k, .string ⟨#[98]⟩] 78)) 79; rw [World.size_alloc] at t; exact t _)
      obtain ⟨vs, hrow, _⟩ := ((om2_ok _).later f2 hWB).held
      rw [hL2] at hrow
      have Hg := Lib.hid (fun (w5 : World) (g cap : Nat) (hown : w5.ownsRow Wr.heap.size 79 1 (.slice (some ⟨g, 0, none⟩) (k + 1) cap) (k + 1) (vs ++ [(.slice (some ⟨X1.heap.size, 0, none⟩) 2 2)])) (hg : World.grownBy ((X1.alloc (.cells #[.int .i64 k, .string ⟨#[97]⟩, .int .i64 k, .string ⟨#[98]⟩] 78)).alloc (.cells #[.slice (some ⟨X1.heap.size, 0, none⟩) 2 2] 79)) w5 (Value.slice A2 k k2).ownBlock) (hat : (Value.slice A2 k k2).ownBlock = some g ∨ g = (World.heap ((X1.alloc (.cells #[.int .i64 k, .string ⟨#[97]⟩, .int .i64 k, .string ⟨#[98]⟩] 78)).alloc (.cells #[.slice (some ⟨X1.heap.size, 0, none⟩) 2 2] 79))).size) => And.intro (hA.grow_inner hc hbase hWB hr hL2 hrow hown hg rfl hat) (hA.boxed_inner xb hc hWB hg))
      have HX := Lib.hid (And.intro hrow hnb)
      clear hA hBX hL0 hL1 hL2 xb f0 f1 f2 hWB hr hnb hrow
      go_wp2_with (at_builtin; refine wpList_append_lies _ rfl _ _ 34 rfl Wr.heap.size 79 i2 (.slice none 0 0) 1 24 Try.underlying34 hb1 hb2 hb3 hb4 rfl (by decide) _ k _ rfl HX.out.1 ⟨X1.heap.size + 1, 0, none⟩ 1 1 [(.slice (some ⟨X1.heap.size, 0, none⟩) 2 2)] rfl rfl (World.news_of_block HX.out.2) (one_sing rfl) (by decide) ?c1 ?c2 ?c3 _ rfl ?_)
      case c1 => unfold maxLen; omega
      case c2 => omega
      case c3 => first | omega | (simp only [World.size_alloc]; omega)
      intro g1 cap1 w5 hown hg5 hat hltg
      obtain ⟨⟨e, hA2, hB2, _⟩, hb5⟩ := Hg.out w5 g1 cap1 hown hg5 (by simpa only [World.size_alloc] using hat)
      have q3 := hb5.cell 4 _ rfl
      have q4 := hb5.frozen 4
      have hbl5 := hb5.lt
      obtain ⟨X2, hX1⟩ : ∃ X1, X1 = w5.setCell ⟨b, 4, none⟩ (.slice (some ⟨g1, 0, none⟩) (k + 1) cap1) := ⟨_, rfl⟩
      rw [← hX1] at hA2 hB2
      have HX1 := Lib.hid hX1
      have HA_X2 := Lib.hid (And.intro hA2 (And.intro (HA_X1.out.2.1.trans hB2) (RwLen.inner (r := (plInner k)) HA_X1.out.2.2)))
      clear hA2 hB2 hown hg5 hat hb5 hltg hX1 hc hbl hbase Hg HX 
      go_upto_region 7 with fail
      rw [← HX1.out]
      clear q3 q4 hbl5 HX1 HA_X1
      go_upto_region 9 with fail
      have HT0 := Lib.hid (TwoRows.start X2 ((k : Int), ⟨#[41]⟩) ((k : Int), ⟨#[93]⟩))
      obtain ⟨W3, hW3⟩ : ∃ W3, W3 = (((X2.alloc (.cells #[] 78)).alloc (.cells #[] 78)).alloc (.cells #[.slice (some ⟨X2.heap.size, 0, none⟩) 0 0, .slice (some ⟨X2.heap.size + 1, 0, none⟩) 0 0] 79)) := ⟨_, rfl⟩
      rw [← hW3] at HT0 ⊢
      clear hW3
      obtain ⟨L, hL⟩ : ∃ L, L = X2.heap.size + 1 + 1 := ⟨_, rfl⟩
      rw [← hL] at HT0 ⊢
      have HL := Lib.hid hL
      clear hL
      go_loopw [8] (fun i wr => ∃ j : Nat, j ≤ m + 1 ∧ i = .int .i64 j ∧ TwoRows X2.heap.size X2 wr L j j ((k : Int), ⟨#[41]⟩) ((k : Int), ⟨#[93]⟩)) (fun i _ => m + 1 - (intOf i).toNat)
      case atStart => exact ⟨0, Nat.zero_le _, rfl, HT0.out⟩
      case round =>
        obtain ⟨j, hj, rfl, hT⟩ := hrel
        obtain ⟨Y, rfl⟩ : ∃ y, y = wr := ⟨_, rfl⟩
        by_cases hlt2 : j ≤ m
        · have HT := Lib.hid hT
          clear hT
          obtain ⟨⟨A0, c0, A1, c1, e0, e1, xb, f0, f1, hd, n0, n1⟩, hTB, hTL, hTX⟩ := HT.out
          have u0 := xb.cell 0 _ rfl
          have u1 := xb.cell 1 _ rfl
          have hbl := xb.lt
          have hsz := hTB.size
          have hWB : Below Y.heap.size Y (Y.alloc (.cells #[.int .i64 k, .string ⟨#[41]⟩] 78)) := (Below.refl _ _).alloc (Nat.le_refl _) _
          have hrow := f0.1
          rw [List.length_replicate] at hrow
          have hrow2 := hrow.alloc (.cells #[.int .i64 k, .string ⟨#[41]⟩] 78)
          have hG := Lib.hid (fun (w5 : World) (g cap : Nat) hown hg hat => TwoRows.grow0 (g := g) (cap := cap) (w5 := w5) xb f0 f1 hd n0 n1 hTB hTL hTX hWB hown hg hat)
          have HX := Lib.hid hrow2
          clear xb f0 f1 hd n0 n1 hTB hTL hTX hWB hrow hrow2
          go_wp2_with (at_builtin; refine wpList_append_lies _ rfl _ _ 79 rfl X2.heap.size 78 i4 (.agg #[.int .i64 0, .string ⟨#[]⟩]) 2 24 Try.underlying79 hd1 hd2 hd3 hd4 rfl (by decide) _ (j) _ rfl HX.out ⟨Y.heap.size, 0, none⟩ 1 1 [.int .i64 k, .string ⟨#[41]⟩] rfl rfl (World.news_of_block (Bx.new Y _ _)) one_om (by decide) ?c1 ?c2 ?c3 _ rfl ?_)
          case c1 => unfold maxLen; omega
          case c2 => omega
          case c3 => first | omega | (simp only [World.size_alloc]; omega)
          intro g1 cap1 w5 hown hg5 hat hltg
          obtain ⟨hT2, hb5⟩ := hG.out w5 g1 cap1 hown hg5 (by simpa only [World.size_alloc] using hat)
          have q3 := hb5.cell 0 _ rfl
          have q4 := hb5.frozen 0
          have hbl5 := hb5.lt
          obtain ⟨Y2, hX1⟩ : ∃ X1, X1 = w5.setCell ⟨L, 0, none⟩ (.slice (some ⟨g1, 0, none⟩) (j + 1) cap1) := ⟨_, rfl⟩
          rw [← hX1] at hT2
          have HX1 := Lib.hid hX1
          have HT2 := Lib.hid hT2
          clear hT2 hown hg5 hat hb5 hltg hX1 hbl hsz hG HX u0 u1
          go_upto_region 12 with fail
          rw [← HX1.out]
          clear q3 q4 hbl5 HX1
          obtain ⟨⟨A0, c0, A1, c1, e0, e1, xb, f0, f1, hd, n0, n1⟩, hTB, hTL, hTX⟩ := HT2.out
          have u0 := xb.cell 0 _ rfl
          have u1 := xb.cell 1 _ rfl
          have hbl := xb.lt
          have hsz := hTB.size
          have hWB : Below Y2.heap.size Y2 (Y2.alloc (.cells #[.int .i64 k, .string ⟨#[93]⟩] 78)) := (Below.refl _ _).alloc (Nat.le_refl _) _
          have hrow := f1.1
          rw [List.length_replicate] at hrow
          have hrow2 := hrow.alloc (.cells #[.int .i64 k, .string ⟨#[93]⟩] 78)
          have hG := Lib.hid (fun (w5 : World) (g cap : Nat) hown hg hat => TwoRows.grow1 (g := g) (cap := cap) (w5 := w5) xb f0 f1 hd n0 n1 hTB hTL hTX hWB hown hg hat)
          have HX := Lib.hid hrow2
          clear xb f0 f1 hd n0 n1 hTB hTL hTX hWB hrow hrow2
          go_wp2_with (at_builtin; refine wpList_append_lies _ rfl _ _ 79 rfl X2.heap.size 78 i4 (.agg #[.int .i64 0, .string ⟨#[]⟩]) 2 24 Try.underlying79 hd1 hd2 hd3 hd4 rfl (by decide) _ (j) _ rfl HX.out ⟨Y2.heap.size, 0, none⟩ 1 1 [.int .i64 k, .string ⟨#[93]⟩] rfl rfl (World.news_of_block (Bx.new Y2 _ _)) one_om (by decide) ?c1 ?c2 ?c3 _ rfl ?_)
          case c1 => unfold maxLen; omega
          case c2 => omega
          case c3 => first | omega | (simp only [World.size_alloc]; omega)
          intro g1 cap1 w5 hown hg5 hat hltg
          obtain ⟨hT2, hb5⟩ := hG.out w5 g1 cap1 hown hg5 (by simpa only [World.size_alloc] using hat)
          have q3 := hb5.cell 1 _ rfl
          have q4 := hb5.frozen 1
          have hbl5 := hb5.lt
          obtain ⟨Y3, hX1⟩ : ∃ X1, X1 = w5.setCell ⟨L, 1, none⟩ (.slice (some ⟨g1, 0, none⟩) (j + 1) cap1) := ⟨_, rfl⟩
          rw [← hX1] at hT2
          have HX1 := Lib.hid hX1
          have HT1 := Lib.hid hT2
          clear hT2 hown hg5 hat hb5 hltg hX1 hbl hsz hG HX u0 u1
          go_wp2
          rw [← HX1.out]
          go_roundw
          case rel => exact ⟨j + 1, by omega, by go_num, HT1.out⟩
          case measure => simp [intOf]; omega
        · have e : j = m + 1 := by omega
          have HT := Lib.hid (show TwoRows X2.heap.size X2 Y L (m + 1) (m + 1) ((k : Int), ⟨#[41]⟩) ((k : Int), ⟨#[93]⟩) by rw [← e]; exact hT)
          clear hT e
          obtain ⟨⟨A0, c0, A1', c1, e0, e1, xbL, g0, g1', hd, n0, n1⟩, hTB, hTL, hTX⟩ := HT.out
          have hrL : Om2E X2.heap.size (Y.alloc (.cells #[.slice (some ⟨L, 0, none⟩) 2 2] 34)) (.slice (some ⟨L, 0, none⟩) 2 2) (plRet m k) (L :: [e0, e1].flatten) :=
            many_lit 2 (xbL.alloc _) hTL rfl ⟨(om_ok _).later g0 ((Below.refl _ _).alloc (Nat.le_refl _) _), (om_ok _).later g1' ((Below.refl _ _).alloc (Nat.le_refl _) _), trivial⟩ (by
              simp only [List.flatten_cons, List.flatten_nil, List.append_nil, List.nodup_cons, List.mem_append, not_or]
              exact ⟨⟨n0, n1⟩, List.nodup_append.2 ⟨(om_ok _).nodup g0, (om_ok _).nodup g1', fun a h1 b h2 e => hd a h1 (e ▸ h2)⟩⟩) (by unfold maxLen; omega)
          have hWY : Below X2.heap.size X2 (Y.alloc (.cells #[.slice (some ⟨L, 0, none⟩) 2 2] 34)) := hTB.alloc (by have := hTB.size; omega) _
          have hszY := hTB.size
          have hYB := hTB
          clear xbL g0 g1' hd n0 n1 hTB hTL hTX HT
          obtain ⟨hA, hBX, hL0, hL1, hL2⟩ := HA_X2.out
          obtain ⟨v0, v1, v2, xb, f0, f1, f2⟩ := hA.ex
          obtain ⟨A1, k1, rfl⟩ := ManyE.slice f1
          rw [hL1] at xb f1
          have hc := xb.cell 3 _ rfl
          have hbl := xb.lt
          have hcY := (hYB.cell (World.block_lt_of_cell? _ _ hc)).trans hc
          have hblY : b < Y.heap.size := by omega
          clear hYB
          have hbase : Wr.heap.size ≤ X2.heap.size := hBX.size
          have hWB : Below X2.heap.size X2 (Y.alloc (.cells #[.slice (some ⟨L, 0, none⟩) 2 2] 34)) := hWY
          have hr : Om2E X2.heap.size (Y.alloc (.cells #[.slice (some ⟨L, 0, none⟩) 2 2] 34)) (.slice (some ⟨L, 0, none⟩) 2 2) (plRet m k) (L :: [e0, e1].flatten) := hrL
          have hnb : Bx (Y.alloc (.cells #[.slice (some ⟨L, 0, none⟩) 2 2] 34)) (Y.heap.size) 34 #[(.slice (some ⟨L, 0, none⟩) 2 2)] := Bx.new Y _ _
          obtain ⟨vs, hrow, _⟩ := ((om3_ok _).later f1 hWB).held
          rw [hL1] at hrow
          have Hg := Lib.hid (fun (w5 : World) (g cap : Nat) (hown : w5.ownsRow Wr.heap.size 34 1 (.slice (some ⟨g, 0, none⟩) (k + 1) cap) (k + 1) (vs ++ [(.slice (some ⟨L, 0, none⟩) 2 2)])) (hg : World.grownBy (Y.alloc (.cells #[.slice (some ⟨L, 0, none⟩) 2 2] 34)) w5 (Value.slice A1 k k1).ownBlock) (hat : (Value.slice A1 k k1).ownBlock = some g ∨ g = (World.heap (Y.alloc (.cells #[.slice (some ⟨L, 0, none⟩) 2 2] 34))).size) => And.intro (hA.grow_ret hc hbase hWB hr hL1 hrow hown hg rfl hat) (hA.boxed_ret xb hc hWB hg))
          have HX := Lib.hid (And.intro hrow hnb)
          clear hA hBX hL0 hL1 hL2 xb f0 f1 f2 hWB hr hnb hrow
          go_wp2_with (at_builtin; refine wpList_append_lies _ rfl _ _ 33 rfl Wr.heap.size 34 i3 (.slice none 0 0) 1 24 Try.underlying33 hc1 hc2 hc3 hc4 rfl (by decide) _ k _ rfl HX.out.1 ⟨Y.heap.size, 0, none⟩ 1 1 [(.slice (some ⟨L, 0, none⟩) 2 2)] rfl rfl (World.news_of_block HX.out.2) (one_sing rfl) (by decide) ?c1 ?c2 ?c3 _ rfl ?_)
          case c1 => unfold maxLen; omega
          case c2 => omega
          case c3 => first | omega | (simp only [World.size_alloc]; omega)
          intro g1 cap1 w5 hown hg5 hat hltg
          obtain ⟨⟨e, hA2, hB2, _⟩, hb5⟩ := Hg.out w5 g1 cap1 hown hg5 (by simpa only [World.size_alloc] using hat)
          have q3 := hb5.cell 3 _ rfl
          have q4 := hb5.frozen 3
          have hbl5 := hb5.lt
          obtain ⟨X4, hX1⟩ : ∃ X1, X1 = w5.setCell ⟨b, 3, none⟩ (.slice (some ⟨g1, 0, none⟩) (k + 1) cap1) := ⟨_, rfl⟩
          rw [← hX1] at hA2 hB2
          have HX1 := Lib.hid hX1
          have HA_X4 := Lib.hid (And.intro hA2 (And.intro (HA_X2.out.2.1.trans hB2) (RwLen.ret (r := (plRet m k)) HA_X2.out.2.2)))
          clear hA2 hB2 hown hg5 hat hb5 hltg hX1 hc hbl hbase Hg HX hcY hblY hszY
          go_upto_region 4 with fail
          rw [← HX1.out]
          clear q3 q4 hbl5 HX1 HA_X2
          go_wp2
          go_roundw
          case rel => exact ⟨k + 1, by omega, by go_num, ⟨_, _, _, by rw [plainRw_succ]; exact HA_X4.out.1⟩, HA_X4.out.2.1⟩
          case measure => simp [intOf]; omega
    · have e : k = n := by omega
      subst e
      obtain ⟨A0, n0, k0, A1, n1, k1, A2, n2, k2, xb, hE⟩ := hA.value
      have hBr := HR.out.1
      have xr := HR.out.2.2.same (hB.block _ HR.out.2.1)
      obtain ⟨z0, z1, z2, z3, z4, zl⟩ := id xb.all5
      obtain ⟨r0, r1, r2, r3, r4, rl⟩ := id xr.all5
      have q0 := xr.frozen 0
      have q1 := xr.frozen 1
      have q2 := xr.frozen 2
      have q3 := xr.frozen 3
      have q4 := xr.frozen 4
      have Hf := Lib.hid (And.intro hB hE)
      obtain ⟨s0, hs0⟩ : ∃ x, x = (plainRw k m).stack := ⟨_, rfl⟩
      obtain ⟨s1, hs1⟩ : ∃ x, x = (plainRw k m).start := ⟨_, rfl⟩
      rw [← hs0] at z0
      rw [← hs1] at z1
      have Hs := Lib.hid (And.intro hs0 hs1)
      clear hA hB hE xb xr hs0 hs1
      go_wp2
      obtain ⟨e0, e1⟩ := Hs.out
      have hE := Hf.out.2
      rw [← e0, ← e1] at hE
      obtain ⟨x5, hF, hBf⟩ := rw_home (x0 := .int .i64 s0) (x1 := .int .i64 s1) (x2 := .slice A0 n0 k0) (x3 := .slice A1 n1 k1) (x4 := .slice A2 n2 k2) (Nat.le_refl _) HR.out.1 HR.out.2.1 HR.out.2.2 Hf.out.1 hE
      have f0 := x5.cell 0 _ rfl
      have f1 := x5.cell 1 _ rfl
      have f2 := x5.cell 2 _ rfl
      have f3 := x5.cell 3 _ rfl
      have f4 := x5.cell 4 _ rfl
      unfold set5 at f0 f1 f2 f3 f4 hF hBf
      exact bodyPost_ret (v := .agg #[.int .i64 s0, .int .i64 s1, .slice A0 n0 k0, .slice A1 n1 k1, .slice A2 n2 k2]) (by simp [results, Try.results44, go_sem, f0, f1, f2, f3, f4]) rfl ⟨_, _, rfl, hF, hBf⟩
end Go.Proofs.Ytmkamodmnplclaa
