/- blindChecker of the program, over the closure of DepthChecker. -/
import Derived.Test.YtdehehdcjfaefabPlain
import Derived.Test.YtdehehdcjfaefabBlind1
import Derived.Test.YtdehehdcjfaefabPost0
import Derived.Laws.EntriesVeiled
namespace Go.Proofs.Ytdehehdcjfaefab
open Go.RowKit
set_option linter.unusedVariables false

/-- n states, of which k have their moves; none accepts. -/
def blindPre (n k : Nat) (f : Nat → Nat → Int) : Ck := { plainCk k (fun _ => false) f with accept := List.replicate n false }
theorem blind_succ (n k : Nat) (f : Nat → Nat → Int) : { blindPre n k f with call := (blindPre n k f).call ++ [[(f k 0, 0), (f k 1, 0)]], ret := (blindPre n k f).ret ++ [[[f k 2, f k 2], [f k 3, f k 3]]], inner := (blindPre n k f).inner ++ [[f k 4, f k 5]] } = blindPre n (k + 1) f := by
  simp [blindPre, plainCk, List.range_succ]

theorem cell_block {W W' : World} {p : Addr} (h : W'.heap[p.block]? = W.heap[p.block]?) : W'.cell? p = W.cell? p := by simp only [World.cell?, h]

theorem DepAt.kept {w W : World} {m NB SB TB d M : Nat} (h : DepAt w m NB SB TB d M) (hk : ∀ q, q = NB ∨ q = SB ∨ q = TB ∨ q = M → W.heap[q]? = w.heap[q]?) : DepAt W m NB SB TB d M :=
  ⟨(cell_block (hk NB (by simp))).trans h.next, (cell_block (hk SB (by simp))).trans h.state, (cell_block (hk TB (by simp))).trans h.goes, (cell_block (hk M (by simp))).trans h.most⟩

set_option maxHeartbeats 25600000 in
set_option maxRecDepth 100000 in
theorem impl_blindD {m M : Nat} (w : World) (hm : m ≤ 9) (hM : w.cell? ⟨M, 0, none⟩ = some (.int .i64 (m : Int))) :
    Calls Try.prog 64 #[.int .i64 ((m + 2 : Nat) : Int), .func (.func 65) #[] #[.pointer (some ⟨M, 0, none⟩)]] w fun e w' => ∃ v bs, e = .returned v ∧ CkE w.heap.size w' v (blindPre (m + 2) (m + 2) (depthTo m)) bs ∧ Below w.heap.size w w' := by
  obtain ⟨n, hn'⟩ : ∃ n, n = m + 2 := ⟨_, rfl⟩
  have hn40 : n ≤ 40 := by omega
  have hn1 : 1 ≤ n := by omega
  have Hn := Lib.hid hn'
  rw [← hn']
  clear hn'
  have hmk := run_make_row' (P := Try.prog) 22 4 (.bool false) 1 Try.underlying22 toInfo_bool rfl .i64 .i64 n (by omega) (by omega)
  obtain ⟨Wr, hWr⟩ : ∃ Wr, Wr = (w.alloc (.cells #[.func (.func 65) #[] #[.pointer (some ⟨M, 0, none⟩)]] 84)).alloc (.cells #[.int .i64 0, .int .i64 0, .slice none 0 0, .slice none 0 0, .slice none 0 0, .slice none 0 0] 31) := ⟨_, rfl⟩
  have hBr : Below w.heap.size w Wr := by rw [hWr]; exact ((Below.refl w.heap.size w).alloc (Nat.le_refl _) _).alloc (by simp) _
  have hnb : Bx Wr w.heap.size 84 #[.func (.func 65) #[] #[.pointer (some ⟨M, 0, none⟩)]] := by rw [hWr]; exact (Bx.new w _ _).alloc _
  have hres : Bx Wr (w.heap.size + 1) 31 #[.int .i64 0, .int .i64 0, .slice none 0 0, .slice none 0 0, .slice none 0 0, .slice none 0 0] := by
    rw [hWr]
    have t := Bx.new (w.alloc (.cells #[.func (.func 65) #[] #[.pointer (some ⟨M, 0, none⟩)]] 84)) 31 #[.int .i64 0, .int .i64 0, .slice none 0 0, .slice none 0 0, .slice none 0 0, .slice none 0 0]
    rwa [World.size_alloc] at t
  have hsz : Wr.heap.size = w.heap.size + 1 + 1 := by rw [hWr, World.size_alloc, World.size_alloc]
  obtain ⟨ga, hga⟩ : ∃ ga, ga = Wr.heap.size := ⟨_, rfl⟩
  obtain ⟨b, hb⟩ : ∃ b, b = Wr.heap.size + 1 := ⟨_, rfl⟩
  have hE1 : BoolsE Wr.heap.size (Wr.alloc (.cells (madeCells #[.bool false] n) 4)) (.slice (some ⟨ga, 0, none⟩) n n) (List.replicate n false) [ga] := by rw [hga]; exact rowE_made1 Wr 4 (fun x => Value.bool x) false n (by unfold maxLen; omega)
  have hB1 := ((Below.refl Wr.heap.size Wr).alloc (Nat.le_refl _) (.cells (madeCells #[.bool false] n) 4)).alloc (by simp) (.cells #[.int .i64 1, .int .i64 0, .slice (some ⟨ga, 0, none⟩) n n, .slice none 0 0, .slice none 0 0, .slice none 0 0] 31)
  have hb1 := Bx.new (Wr.alloc (.cells (madeCells #[.bool false] n) 4)) 31 #[.int .i64 1, .int .i64 0, .slice (some ⟨ga, 0, none⟩) n n, .slice none 0 0, .slice none 0 0, .slice none 0 0]
  rw [World.size_alloc, ← hb] at hb1
  have hE2 := (bools_ok _).later hE1 ((Below.refl _ _).alloc (Nat.le_refl _) (.cells #[.int .i64 1, .int .i64 0, .slice (some ⟨ga, 0, none⟩) n n, .slice none 0 0, .slice none 0 0, .slice none 0 0] 31))
  obtain ⟨W1, hW1⟩ : ∃ W1, W1 = (Wr.alloc (.cells (madeCells #[.bool false] n) 4)).alloc (.cells #[.int .i64 1, .int .i64 0, .slice (some ⟨ga, 0, none⟩) n n, .slice none 0 0, .slice none 0 0, .slice none 0 0] 31) := ⟨_, rfl⟩
  rw [← hW1] at hB1 hb1 hE2
  have hbox : BoxAt Wr.heap.size W1 b (blindPre n 0 (depthTo m)) [ga] := by
    refine ⟨_, _, _, _, [ga], [], [], [], hb1, hE2, ?_, ?_, ?_, by simp, by simp, by simp; omega⟩
    · simpa [blindPre, plainCk] using ManyE.nil _ _ _ _
    · simpa [blindPre, plainCk] using ManyE.nil _ _ _ _
    · simpa [blindPre, plainCk] using ManyE.nil _ _ _ _
  obtain ⟨base, hbase⟩ : ∃ base, base = Wr.heap.size := ⟨_, rfl⟩
  have hMl := World.block_lt_of_cell? _ _ hM
  have hM' : W1.cell? ⟨M, 0, none⟩ = _ := ((hBr.trans (hB1.mono hBr.size)).cell (p := ⟨M, 0, none⟩) hMl).trans hM
  have HBr := Lib.hid hBr
  have hW1s : Wr.heap.size + 2 ≤ W1.heap.size := by rw [hW1]; simp only [World.size_alloc]; omega
  have HWL := Lib.hid (show w.heap.size + 1 < Wr.heap.size by omega)
  have HR := Lib.hid (And.intro (hres.later hB1) (And.intro hB1 (show w.heap.size + 1 ∉ b :: [ga] by simp; omega)))
  have HW1 := Lib.hid (show ∀ k ∈ b :: [ga], Wr.heap.size ≤ k by intro k hk; simp at hk; omega)
  have HG0 := Lib.hid (show GrownAt base W1 b [ga] W1 (blindPre n 0 (depthTo m)) from GrownAt.refl (by rw [hbase]; exact hbox) (by rw [hbase]; exact hB1.size))
  have HNB := Lib.hid (And.intro (hnb.later hB1) (And.intro (hM' : W1.cell? ⟨M, 0, none⟩ = some (.int .i64 (m : Int))) trivial))
  have HSZ := Lib.hid (And.intro hsz (And.intro hga (And.intro hb (And.intro hbase (And.intro hMl (And.intro hBr.size (And.intro hW1s trivial)))))))
  have HW := Lib.hid (And.intro hWr (And.intro hW1 hb))
  have HFR := Lib.hid (And.intro hga hb)
  clear hWr hBr hnb hres hE1 hB1 hb1 hE2 hW1 hbox hM hMl hM' hW1s 
  have hz1 : w.heap.size + 1 + 1 = ga := by rw [hga, hsz]
  have hz2 : ga + 1 = b := by rw [hb, hga]
  have Hz := Lib.hid (And.intro hz1 hz2)
  clear hz1 hz2 hga hb hsz hbase
  go_enter Try.func64, Try.ntmps64
  go_wp2_with fail
  rw [← HW.out.1]
  simp only [Hz.out.1, Hz.out.2]
  rw [← HW.out.2.1]
  clear HW hmk
  go_loopw [13] (fun i wr => ∃ k : Nat, k ≤ n ∧ i = .int .i64 k ∧ GrownAt base W1 b [ga] wr (blindPre n k (depthTo m))) (fun i _ => n - (intOf i).toNat)
  case atStart => exact ⟨0, Nat.zero_le _, rfl, HG0.out⟩
  case round =>
    obtain ⟨d, hk, rfl, hG⟩ := hrel
    have HGk := Lib.hid hG
    by_cases hlt : d < n
    · have hdlt : d ≤ m + 1 := by have := Hn.out; omega
      obtain ⟨f, hf⟩ : ∃ f, f = depthTo m d := ⟨_, rfl⟩
      have HF := Lib.hid hf
      have hal := ((Below.refl wr.heap.size wr).alloc (Nat.le_refl _) (.cells #[.int .i64 (d : Int)] 2)).alloc (by simp) (.cells #[.func (.func 107) #[] #[.pointer (some ⟨w.heap.size, 0, none⟩), .pointer (some ⟨wr.heap.size, 0, none⟩)]] 123)
      obtain ⟨X, hX⟩ : ∃ X, X = (wr.alloc (.cells #[.int .i64 (d : Int)] 2)).alloc (.cells #[.func (.func 107) #[] #[.pointer (some ⟨w.heap.size, 0, none⟩), .pointer (some ⟨wr.heap.size, 0, none⟩)]] 123) := ⟨_, rfl⟩
      rw [← hX] at hal
      have hGa := hG.later hal
      have hXs : X.heap.size = wr.heap.size + 2 := by rw [hX]; simp only [World.size_alloc]
      obtain ⟨⟨bs0, hbx0, hs0⟩, hT0, hb0⟩ := hG
      have hl0 := hbx0.lt
      have hlw := hT0.size
      have hsb : X.cell? ⟨wr.heap.size, 0, none⟩ = some (.int .i64 (d : Int)) := by
        rw [hX]; exact ((Bx.new wr _ _).alloc _).cell 0 _ rfl
      have htb : X.cell? ⟨wr.heap.size + 1, 0, none⟩ = some (.func (.func 107) #[] #[.pointer (some ⟨w.heap.size, 0, none⟩), .pointer (some ⟨wr.heap.size, 0, none⟩)]) := by
        rw [hX]
        have t := (Bx.new (wr.alloc (.cells #[.int .i64 (d : Int)] 2)) 123 #[.func (.func 107) #[] #[.pointer (some ⟨w.heap.size, 0, none⟩), .pointer (some ⟨wr.heap.size, 0, none⟩)]]).cell 0 _ rfl
        rwa [World.size_alloc] at t
      obtain ⟨z1, z2, z3, z4, z5, z6, z7, z8⟩ := HSZ.out
      have hold : ∀ q, q < Wr.heap.size → X.heap[q]? = W1.heap[q]? := fun q hq => (hal.block q (by omega)).trans (hT0.block q (by omega) (by simp; omega))
      have hA : DepAt X m w.heap.size wr.heap.size (wr.heap.size + 1) d M := ⟨(cell_block (hold w.heap.size (by omega))).trans (HNB.out.1.cell 0 _ rfl), hsb, htb, (cell_block (p := ⟨M, 0, none⟩) (hold M (by omega))).trans HNB.out.2.1⟩
      have HAk := Lib.hid (fun (X1 : World) (c2 : Ck) (h : GrownAt base X b bs0 X1 c2) => show DepAt X1 m w.heap.size wr.heap.size (wr.heap.size + 1) d M from hA.kept (fun q hq => h.turned.block q (by omega) (fun hm => by
        have hbb := hl0.1
        rcases List.mem_cons.1 hm with e | hm
        · omega
        · have := hl0.2 q hm; omega)))
      obtain ⟨c1, hc1⟩ : ∃ c1, c1 = blindPre n d (depthTo m) := ⟨_, rfl⟩
      have Hlen := Lib.hid (show c1.call.length ≤ 100 by rw [hc1]; simp [blindPre, plainCk]; omega)
      have HC := Lib.hid hc1
      have HG := Lib.hid (show GrownAt base X b bs0 X c1 from GrownAt.refl (by rw [hc1]; exact hbx0.later hal) (by have := hGa.base; omega))
      have HA := Lib.hid hA
      have Hst := Lib.hid (fun (Y : World) hY => GrownAt.trans hGa hs0 (w' := Y) (c' := blindPre n (d + 1) (depthTo m)) hY)
      have HWX := Lib.hid hX
      clear hf hal hX hGa hXs hbx0 hs0 hT0 hb0 hl0 hlw hsb htb z1 z2 z3 z4 z5 z6 z7 z8 hold hA hc1
      obtain ⟨⟨bs0, hbx, hsub⟩, hT, hb0⟩ := HG.out
      obtain ⟨va, vc, vr, vi, d1, d2, d3, d4, xb, f1, f2, f3, f4, rfl, hnd, hnb⟩ := hbx.ex
      obtain ⟨A1, k1, rfl⟩ := RowE.slice f1
      obtain ⟨A2, k2, rfl⟩ := ManyE.slice f2
      obtain ⟨A3, k3, rfl⟩ := ManyE.slice f3
      obtain ⟨A4, k4, rfl⟩ := ManyE.slice f4
      obtain ⟨j, hj⟩ : ∃ j, j = c1.call.length := ⟨_, rfl⟩
      have hj100 : j ≤ 100 := by have := Hlen.out; omega
      rw [← hj] at xb f2
      have HX := Lib.hid (And.intro f1 (And.intro f2 (And.intro f3 (And.intro f4 (And.intro hnd (And.intro hnb (And.intro hsub (And.intro hT (And.intro hb0 (And.intro xb hj))))))))))
      clear hbx f1 f2 f3 f4 hnd hnb hsub hT hb0 xb hj
      obtain ⟨r0, hr0, hr1, hr2, hr3⟩ := info_parts toInfo_pushes
      go_upto_region 7 with fail
      try rw [← HWX.out]
      refine wp_region_free_seq (by kernel_rfl) [
          .val [] (fun _ => .pointer (some ⟨b, 3, none⟩)),
          .val [] (fun _ => .slice A2 j k2),
          .val [] (fun _ => .func (.func 107) #[] #[.pointer (some ⟨w.heap.size, 0, none⟩), .pointer (some ⟨wr.heap.size, 0, none⟩)]),
          .val [] (fun _ => .int .i64 (f 0)),
          .val [] (fun _ => .agg #[.int .i64 (f 0), .int .i64 0]),
          .val [] (fun _ => .func (.func 107) #[] #[.pointer (some ⟨w.heap.size, 0, none⟩), .pointer (some ⟨wr.heap.size, 0, none⟩)]),
          .val [] (fun _ => .int .i64 (f 1)),
          .val [] (fun _ => .agg #[.int .i64 (f 1), .int .i64 0]),
          .own (LitE X.heap.size 71 #[.int .i64 (f 0), .int .i64 0, .int .i64 (f 1), .int .i64 0] 2) (),
          .dep 8 (fun r => LitE X.heap.size 69 #[r] 1) ()] 10 ?hp ?hfw ?deps ?oks ?hforced ?hf ?steps ?tail
      case hp => kernel_rfl
      case hfw => kernel_rfl
      case deps => kernel_rfl
      case hforced => kernel_rfl
      case hf => kernel_rfl
      case oks =>
        intro F hF
        simp only [List.mem_cons, List.not_mem_nil, or_false] at hF
        rcases hF with rfl | rfl | rfl | rfl | rfl | rfl | rfl | rfl | rfl | rfl
        all_goals first | trivial | exact ⟨_, lit_ok _ _ _ _⟩ | exact ⟨_, ints_ok _⟩ | exact fun v => ⟨_, lit_ok _ _ _ _⟩
      case steps =>
        refine Steps.cons ?_ ?_
        · intro _
          refine FreeStep.val [] _ rfl rfl fun u β W hW hn fr hfr K hK => ?_
          simp only [frameL, putL, Act.put, List.setIfInBounds_toArray, List.set_cons_zero, List.set_cons_succ, Nat.zero_add, Nat.reduceAdd] at hfr
          subst hfr
          have HK := Lib.hid hK
          clear hK hn
          go_simp
          exact HK.out
        refine Steps.cons ?_ ?_
        · intro _
          refine FreeStep.val [] _ rfl rfl fun u β W hW hn fr hfr K hK => ?_
          simp only [frameL, putL, Act.put, List.setIfInBounds_toArray, List.set_cons_zero, List.set_cons_succ, Nat.zero_add, Nat.reduceAdd] at hfr
          subst hfr
          have e0 : u 0 = .pointer (some ⟨b, 3, none⟩) := Have.get (k := 0) hn rfl
          simp only [e0] at hK
          have c0 : W.cell? ⟨b, 3, none⟩ = some (.slice A2 j k2) := (HX.out.2.2.2.2.2.2.2.2.2.1.later hW).cell 3 _ rfl
          have HK := Lib.hid hK
          clear hK hn
          go_simp
          exact HK.out
        refine Steps.cons ?_ ?_
        · intro _
          refine FreeStep.val [] _ rfl rfl fun u β W hW hn fr hfr K hK => ?_
          simp only [frameL, putL, Act.put, List.setIfInBounds_toArray, List.set_cons_zero, List.set_cons_succ, Nat.zero_add, Nat.reduceAdd] at hfr
          subst hfr
          have c0 : W.cell? ⟨wr.heap.size + 1, 0, none⟩ = some (.func (.func 107) #[] #[.pointer (some ⟨w.heap.size, 0, none⟩), .pointer (some ⟨wr.heap.size, 0, none⟩)]) := (HA.out.later hW).goes
          have HK := Lib.hid hK
          clear hK hn
          go_simp
          exact HK.out
        refine Steps.cons ?_ ?_
        · intro _
          refine FreeStep.calm [] _ rfl rfl fun u β W hW hn fr hfr K hK => ?_
          simp only [frameL, putL, Act.put, List.setIfInBounds_toArray, List.set_cons_zero, List.set_cons_succ, Nat.zero_add, Nat.reduceAdd] at hfr
          subst hfr
          have e2 : u 2 = .func (.func 107) #[] #[.pointer (some ⟨w.heap.size, 0, none⟩), .pointer (some ⟨wr.heap.size, 0, none⟩)] := Have.get (k := 2) hn rfl
          simp only [e2] at hK
          have Q : Hid (Calls Try.prog 107 #[.int .u8 0, .pointer (some ⟨w.heap.size, 0, none⟩), .pointer (some ⟨wr.heap.size, 0, none⟩)] W fun e w' => e = .returned (.int .i64 (f 0)) ∧ W = w') := Lib.hid (by rw [HF.out]; exact Dep_to 0 W (by omega) hm hdlt (HA.out.later hW))
          have HK := Lib.hid hK
          clear hK hn
          go_simp
          refine Q.out.mono ?_
          rintro e w1 ⟨rfl, rfl⟩
          exact HK.out _ (Below.refl _ _)
        refine Steps.cons ?_ ?_
        · intro _
          refine FreeStep.val [] _ rfl rfl fun u β W hW hn fr hfr K hK => ?_
          simp only [frameL, putL, Act.put, List.setIfInBounds_toArray, List.set_cons_zero, List.set_cons_succ, Nat.zero_add, Nat.reduceAdd] at hfr
          subst hfr
          have e3 : u 3 = .int .i64 (f 0) := Have.get (k := 3) hn rfl
          simp only [e3] at hK
          have HK := Lib.hid hK
          clear hK hn
          go_simp
          exact HK.out
        refine Steps.cons ?_ ?_
        · intro _
          refine FreeStep.val [] _ rfl rfl fun u β W hW hn fr hfr K hK => ?_
          simp only [frameL, putL, Act.put, List.setIfInBounds_toArray, List.set_cons_zero, List.set_cons_succ, Nat.zero_add, Nat.reduceAdd] at hfr
          subst hfr
          have c0 : W.cell? ⟨wr.heap.size + 1, 0, none⟩ = some (.func (.func 107) #[] #[.pointer (some ⟨w.heap.size, 0, none⟩), .pointer (some ⟨wr.heap.size, 0, none⟩)]) := (HA.out.later hW).goes
          have HK := Lib.hid hK
          clear hK hn
          go_simp
          exact HK.out
        refine Steps.cons ?_ ?_
        · intro _
          refine FreeStep.calm [] _ rfl rfl fun u β W hW hn fr hfr K hK => ?_
          simp only [frameL, putL, Act.put, List.setIfInBounds_toArray, List.set_cons_zero, List.set_cons_succ, Nat.zero_add, Nat.reduceAdd] at hfr
          subst hfr
          have e5 : u 5 = .func (.func 107) #[] #[.pointer (some ⟨w.heap.size, 0, none⟩), .pointer (some ⟨wr.heap.size, 0, none⟩)] := Have.get (k := 5) hn rfl
          simp only [e5] at hK
          have Q : Hid (Calls Try.prog 107 #[.int .u8 1, .pointer (some ⟨w.heap.size, 0, none⟩), .pointer (some ⟨wr.heap.size, 0, none⟩)] W fun e w' => e = .returned (.int .i64 (f 1)) ∧ W = w') := Lib.hid (by rw [HF.out]; exact Dep_to 1 W (by omega) hm hdlt (HA.out.later hW))
          have HK := Lib.hid hK
          clear hK hn
          go_simp
          refine Q.out.mono ?_
          rintro e w1 ⟨rfl, rfl⟩
          exact HK.out _ (Below.refl _ _)
        refine Steps.cons ?_ ?_
        · intro _
          refine FreeStep.val [] _ rfl rfl fun u β W hW hn fr hfr K hK => ?_
          simp only [frameL, putL, Act.put, List.setIfInBounds_toArray, List.set_cons_zero, List.set_cons_succ, Nat.zero_add, Nat.reduceAdd] at hfr
          subst hfr
          have e6 : u 6 = .int .i64 (f 1) := Have.get (k := 6) hn rfl
          simp only [e6] at hK
          have HK := Lib.hid hK
          clear hK hn
          go_simp
          exact HK.out
        refine Steps.cons ?_ ?_
        · intro _
          refine FreeStep.own (base := X.heap.size) rfl (lit_ok _ _ _ _) fun u β W hW hn fr hfr K hK => ?_
          simp only [frameL, putL, Act.put, List.setIfInBounds_toArray, List.set_cons_zero, List.set_cons_succ, Nat.zero_add, Nat.reduceAdd] at hfr
          subst hfr
          have e4 : u 4 = .agg #[.int .i64 (f 0), .int .i64 0] := Have.get (k := 4) hn rfl
          have e7 : u 7 = .agg #[.int .i64 (f 1), .int .i64 0] := Have.get (k := 7) hn rfl
          simp only [e4, e7] at hK
          have hsz := hW.size
          have HK := Lib.hid hK
          clear hK hn
          go_simp
          exact HK.out _ [W.heap.size] _ ((Below.refl _ _).alloc (Nat.le_refl _) _) (LitE.new _ _ _ W hsz) (fun b hb => by rw [List.mem_singleton.1 hb]; exact Nat.le_refl _)
        refine Steps.cons ?_ ?_
        · intro _
          refine FreeStep.dep (base := X.heap.size) rfl (by decide) (fun v => lit_ok _ _ _ _) fun u β W hW hn fr hfr K hK => ?_
          simp only [frameL, putL, Act.put, List.setIfInBounds_toArray, List.set_cons_zero, List.set_cons_succ, Nat.zero_add, Nat.reduceAdd] at hfr
          subst hfr
          have f8 : LitE X.heap.size 71 #[.int .i64 (f 0), .int .i64 0, .int .i64 (f 1), .int .i64 0] 2 W (u 8) () (β 8) := Have.get (k := 8) hn rfl
          obtain ⟨b8, g8, _, _, _⟩ := f8
          have H8 := Lib.hid g8
          have hsz := hW.size
          have HK := Lib.hid hK
          clear hK hn
          rw [g8] at HK ⊢
          go_simp
          exact HK.out _ [W.heap.size] _ ((Below.refl _ _).alloc (Nat.le_refl _) _) (LitE.new _ _ _ W hsz) (fun b hb => by rw [List.mem_singleton.1 hb]; exact Nat.le_refl _)
        exact ⟨fun h => absurd h (by decide), fun h => absurd h (by decide), fun h => absurd h (by decide), trivial⟩
      case tail =>
        intro u β W hW hn hdis hbnd fr hfr
        simp only [frameL, putL, Act.put, List.setIfInBounds_toArray, List.set_cons_zero, List.set_cons_succ, Nat.zero_add, Nat.reduceAdd] at hfr
        subst hfr
        have eL : u 1 = .slice A2 j k2 := Have.get (k := 1) hn rfl
        have fO : LitE X.heap.size 69 #[u 8] 1 W (u 9) () (β 9) := Have.get (k := 9) hn rfl
        have f8 : LitE X.heap.size 71 #[.int .i64 (f 0), .int .i64 0, .int .i64 (f 1), .int .i64 0] 2 W (u 8) () (β 8) := Have.get (k := 8) hn rfl
        obtain ⟨b8, g8, hb8, hβ8, hl8⟩ := f8
        have hr : PushE X.heap.size W (.slice (some ⟨b8, 0, none⟩) 2 2) [(f 0, 0), (f 1, 0)] [b8] := rowE_lit 2 hb8 hl8 rfl rfl rfl (by unfold maxLen; omega)
        obtain ⟨bo, go, hbo, _, hlo⟩ := fO
        rw [g8] at hbo
        obtain ⟨f1, f2, f3, f4, hnd, hnb, hsub, hT, hb0, xb, hj⟩ := HX.out
        obtain ⟨vs, hrow', _⟩ := ((push2_ok _).later f2 hW).held
        rw [← hj] at hrow'
        have hxbW := xb.later hW
        have hw0 : base ≤ W.heap.size := Nat.le_trans hb0 (Nat.le_trans hT.size hW.size)
        have hCC := Lib.hid (fun (w5 : World) (g1 cap1 : Nat) (hown : w5.ownsRow base 69 1 (.slice (some ⟨g1, 0, none⟩) (j + 1) cap1) (j + 1) (vs ++ [.slice (some ⟨b8, 0, none⟩) 2 2])) (hg : W.grownBy w5 (Value.slice A2 j k2).ownBlock) (hat : (Value.slice A2 j k2).ownBlock = some g1 ∨ g1 = W.heap.size) =>
          GrownAt.call (x := [(f 0, 0), (f 1, 0)]) xb f1 f2 f3 f4 hnd hnb hsub hT hb0 hW hr hj.symm hrow' hown hg rfl hat)
        have hbn := Lib.hid (fun (w5 : World) (hg : W.grownBy w5 (Value.slice A2 j k2).ownBlock) => show Bx w5 b 31 _ from hxbW.same (hg.block b hxbW.lt (fun e => by
          have h1 := f2.held.choose_spec.2 b e.symm
          simp only [List.mem_append, not_or] at hnb
          exact hnb.2.1 h1)))
        clear f1 f2 f3 f4 hnd hnb hsub hT hb0 xb hj hxbW hn hdis hbnd hr
        show wpOps _ _ _ [10, 11, 12] _ _
        rw [wpOps_cons]
        refine wpOp_step rfl (fun K hK => ?_)
        refine step_append_lies _ rfl _ _ 29 rfl base 69 r0 (.slice none 0 0) 1 24 Try.underlying29 hr0 hr1 hr2 hr3 rfl (by decide) _ j _ eL hrow' ⟨bo, 0, none⟩ 1 1 [.slice (some ⟨b8, 0, none⟩) 2 2] go rfl (World.news_of_block hbo) (one_sing2 rfl) (by decide) ?c1 ?c2 ?c3 _ rfl ?_
        case c1 => unfold maxLen; omega
        case c2 => omega
        case c3 => exact hw0
        intro g1 cap1 w5 hown hg5 hat hltg
        refine hK _ _ ?_
        have hG5 := hCC.out w5 g1 cap1 hown hg5 hat
        have hb5 := hbn.out w5 hg5
        have q3 := hb5.cell 3 _ rfl
        have q4 := hb5.frozen 3
        have HG5 := Lib.hid hG5
        clear hown hg5 hat hK hb5 hG5
        rw [wpOps_cons]
        refine wpOp_step rfl (fun K2 hK => ?_)
        go_simp
        refine hK _ _ ?_
        clear hK
        rw [wpOps_cons]
        refine wpOp_step rfl (fun K3 hK => ?_)
        go_simp
        refine hK _ _ ?_
        clear hK
        unfold wpOps
        have hG5 := HG5.out
        obtain ⟨X1, hX1⟩ : ∃ X1, X1 = w5.setCell ⟨b, 3, none⟩ (.slice (some ⟨g1, 0, none⟩) (j + 1) cap1) := ⟨_, rfl⟩
        rw [← hX1] at hG5 ⊢
        have HG1 := Lib.hid hG5
        clear hG5 HG5 hX1 q3 q4 HX hCC hbn
        generalize u 0 = s0
        generalize u 1 = s1
        generalize u 2 = s2
        generalize u 3 = s3
        generalize u 4 = s4
        generalize u 5 = s5
        generalize u 6 = s6
        generalize u 7 = s7
        generalize u 8 = s8
        generalize u 9 = s9
        obtain ⟨c2, hc2⟩ : ∃ c2 : Ck, c2 = { c1 with call := c1.call ++ [[(f 0, 0), (f 1, 0)]] } := ⟨_, rfl⟩
        have hG5 := HG1.out
        rw [← hc2] at hG5
        have Hlen2 := Lib.hid (show c2.ret.length ≤ 100 by rw [hc2, HC.out]; simp [blindPre, plainCk]; omega)
        have HC2 := Lib.hid (show c2 = _ by rw [hc2, HC.out])
        have HA2 := Lib.hid (HAk.out _ _ hG5)
        have HG2 := Lib.hid hG5
        clear hG5 hc2 HG1 HG Hlen HC HA hr0 hr1 hr2 hr3 r0
        obtain ⟨X, rfl⟩ : ∃ X, X = X1 := ⟨_, rfl⟩
        obtain ⟨c1, rfl⟩ : ∃ c, c = c2 := ⟨_, rfl⟩
        have Hlen := Hlen2
        have HC := HC2
        have HA := HA2
        have HG := HG2
        clear Hlen2 HC2 HA2 HG2
        obtain ⟨⟨bs0, hbx, hsub⟩, hT, hb0⟩ := HG.out
        obtain ⟨va, vc, vr, vi, d1, d2, d3, d4, xb, f1, f2, f3, f4, rfl, hnd, hnb⟩ := hbx.ex
        obtain ⟨A1, k1, rfl⟩ := RowE.slice f1
        obtain ⟨A2, k2, rfl⟩ := ManyE.slice f2
        obtain ⟨A3, k3, rfl⟩ := ManyE.slice f3
        obtain ⟨A4, k4, rfl⟩ := ManyE.slice f4
        obtain ⟨j, hj⟩ : ∃ j, j = c1.ret.length := ⟨_, rfl⟩
        have hj100 : j ≤ 100 := by have := Hlen.out; omega
        rw [← hj] at xb f3
        have HX := Lib.hid (And.intro f1 (And.intro f2 (And.intro f3 (And.intro f4 (And.intro hnd (And.intro hnb (And.intro hsub (And.intro hT (And.intro hb0 (And.intro xb hj))))))))))
        clear hbx f1 f2 f3 f4 hnd hnb hsub hT hb0 xb hj
        obtain ⟨r0, hr0, hr1, hr2, hr3⟩ := info_parts toInfo_ints2
        go_upto_region 8 with fail
        try rw [← HWX.out]
        refine wp_region_free_seq (by kernel_rfl) [
            .val [] (fun _ => .pointer (some ⟨b, 4, none⟩)),
            .val [] (fun _ => .slice A3 j k3),
            .val [] (fun _ => .func (.func 108) #[] #[.pointer (some ⟨wr.heap.size + 1, 0, none⟩)]),
            .own (IntsE X.heap.size) [f 2, f 2],
            .val [] (fun _ => .func (.func 108) #[] #[.pointer (some ⟨wr.heap.size + 1, 0, none⟩)]),
            .own (IntsE X.heap.size) [f 3, f 3],
            .depl [3, 5] (fun u => LitE X.heap.size 38 #[u 3, u 5] 2) (),
            .dep 6 (fun r => LitE X.heap.size 25 #[r] 1) ()] 8 ?hp ?hfw ?deps ?oks ?hforced ?hf ?steps ?tail
        case hp => kernel_rfl
        case hfw => kernel_rfl
        case deps => kernel_rfl
        case hforced => kernel_rfl
        case hf => kernel_rfl
        case oks =>
          intro F hF
          simp only [List.mem_cons, List.not_mem_nil, or_false] at hF
          rcases hF with rfl | rfl | rfl | rfl | rfl | rfl | rfl | rfl
          all_goals first | trivial | exact ⟨_, lit_ok _ _ _ _⟩ | exact ⟨_, ints_ok _⟩ | exact fun v => ⟨_, lit_ok _ _ _ _⟩
        case steps =>
          refine Steps.cons ?_ ?_
          · intro _
            refine FreeStep.val [] _ rfl rfl fun u β W hW hn fr hfr K hK => ?_
            simp only [frameL, putL, Act.put, List.setIfInBounds_toArray, List.set_cons_zero, List.set_cons_succ, Nat.zero_add, Nat.reduceAdd] at hfr
            subst hfr
            have HK := Lib.hid hK
            clear hK hn
            go_simp
            exact HK.out
          refine Steps.cons ?_ ?_
          · intro _
            refine FreeStep.val [] _ rfl rfl fun u β W hW hn fr hfr K hK => ?_
            simp only [frameL, putL, Act.put, List.setIfInBounds_toArray, List.set_cons_zero, List.set_cons_succ, Nat.zero_add, Nat.reduceAdd] at hfr
            subst hfr
            have e0 : u 0 = .pointer (some ⟨b, 4, none⟩) := Have.get (k := 0) hn rfl
            simp only [e0] at hK
            have c0 : W.cell? ⟨b, 4, none⟩ = some (.slice A3 j k3) := (HX.out.2.2.2.2.2.2.2.2.2.1.later hW).cell 4 _ rfl
            have HK := Lib.hid hK
            clear hK hn
            go_simp
            exact HK.out
          refine Steps.cons ?_ ?_
          · intro _
            refine FreeStep.val [] _ rfl rfl fun u β W hW hn fr hfr K hK => ?_
            simp only [frameL, putL, Act.put, List.setIfInBounds_toArray, List.set_cons_zero, List.set_cons_succ, Nat.zero_add, Nat.reduceAdd] at hfr
            subst hfr
            have HK := Lib.hid hK
            clear hK hn
            go_simp
            exact HK.out
          refine Steps.cons ?_ ?_
          · intro _
            refine FreeStep.own (base := X.heap.size) rfl (ints_ok _) fun u β W hW hn fr hfr K hK => ?_
            simp only [frameL, putL, Act.put, List.setIfInBounds_toArray, List.set_cons_zero, List.set_cons_succ, Nat.zero_add, Nat.reduceAdd] at hfr
            subst hfr
            have e2 : u 2 = .func (.func 108) #[] #[.pointer (some ⟨wr.heap.size + 1, 0, none⟩)] := Have.get (k := 2) hn rfl
            simp only [e2] at hK
            have hsz := hW.size
            have Q : Hid (Calls Try.prog 108 #[.int .u8 2, .pointer (some ⟨wr.heap.size + 1, 0, none⟩)] W fun e w' => ∃ v bs, e = .returned v ∧ IntsE W.heap.size w' v [f 2, f 2] bs ∧ Below W.heap.size W w') := Lib.hid (by rw [HF.out]; exact Dep_two 2 W (by omega) hm hdlt (HA.out.later hW))
            have HK := Lib.hid hK
            clear hK hn
            go_simp
            refine Q.out.mono ?_
            rintro e w1 ⟨v1, bs1, rfl, hE1, hB1⟩
            exact HK.out v1 bs1 w1 hB1 (ints_base hsz _ _ _ _ hE1) (fun k hk => ((ints_ok _).lt hE1 k hk).1)
          refine Steps.cons ?_ ?_
          · intro _
            refine FreeStep.val [] _ rfl rfl fun u β W hW hn fr hfr K hK => ?_
            simp only [frameL, putL, Act.put, List.setIfInBounds_toArray, List.set_cons_zero, List.set_cons_succ, Nat.zero_add, Nat.reduceAdd] at hfr
            subst hfr
            have HK := Lib.hid hK
            clear hK hn
            go_simp
            exact HK.out
          refine Steps.cons ?_ ?_
          · intro _
            refine FreeStep.own (base := X.heap.size) rfl (ints_ok _) fun u β W hW hn fr hfr K hK => ?_
            simp only [frameL, putL, Act.put, List.setIfInBounds_toArray, List.set_cons_zero, List.set_cons_succ, Nat.zero_add, Nat.reduceAdd] at hfr
            subst hfr
            have e4 : u 4 = .func (.func 108) #[] #[.pointer (some ⟨wr.heap.size + 1, 0, none⟩)] := Have.get (k := 4) hn rfl
            simp only [e4] at hK
            have hsz := hW.size
            have Q : Hid (Calls Try.prog 108 #[.int .u8 3, .pointer (some ⟨wr.heap.size + 1, 0, none⟩)] W fun e w' => ∃ v bs, e = .returned v ∧ IntsE W.heap.size w' v [f 3, f 3] bs ∧ Below W.heap.size W w') := Lib.hid (by rw [HF.out]; exact Dep_two 3 W (by omega) hm hdlt (HA.out.later hW))
            have HK := Lib.hid hK
            clear hK hn
            go_simp
            refine Q.out.mono ?_
            rintro e w1 ⟨v1, bs1, rfl, hE1, hB1⟩
            exact HK.out v1 bs1 w1 hB1 (ints_base hsz _ _ _ _ hE1) (fun k hk => ((ints_ok _).lt hE1 k hk).1)
          refine Steps.cons ?_ ?_
          · intro _
            refine FreeStep.depl (base := X.heap.size) rfl rfl (fun v => lit_ok _ _ _ _) fun u β W hW hn fr hfr K hK => ?_
            simp only [frameL, putL, Act.put, List.setIfInBounds_toArray, List.set_cons_zero, List.set_cons_succ, Nat.zero_add, Nat.reduceAdd] at hfr
            subst hfr
            have f3 : IntsE X.heap.size W (u 3) [f 2, f 2] (β 3) := Have.get (k := 3) hn rfl
            have f5 : IntsE X.heap.size W (u 5) [f 3, f 3] (β 5) := Have.get (k := 5) hn rfl
            obtain ⟨A_3, k_3, g3⟩ := RowE.slice f3
            obtain ⟨A_5, k_5, g5⟩ := RowE.slice f5
            have hon : only [3, 5] u 3 = u 3 ∧ only [3, 5] u 5 = u 5 := ⟨rfl, rfl⟩
            simp only [hon.1, hon.2, g3, g5] at hK
            have hsz := hW.size
            have HK := Lib.hid hK
            clear hK hn f3 f5 hon
            rw [g3, g5]
            go_simp
            exact HK.out _ [W.heap.size] _ ((Below.refl _ _).alloc (Nat.le_refl _) _) (LitE.new _ _ _ W hsz) (fun b hb => by rw [List.mem_singleton.1 hb]; exact Nat.le_refl _)
          refine Steps.cons ?_ ?_
          · intro _
            refine FreeStep.dep (base := X.heap.size) rfl (by decide) (fun v => lit_ok _ _ _ _) fun u β W hW hn fr hfr K hK => ?_
            simp only [frameL, putL, Act.put, List.setIfInBounds_toArray, List.set_cons_zero, List.set_cons_succ, Nat.zero_add, Nat.reduceAdd] at hfr
            subst hfr
            have f6 : LitE X.heap.size 38 #[u 3, u 5] 2 W (u 6) () (β 6) := Have.get (k := 6) hn rfl
            obtain ⟨b6, g6, _, _, _⟩ := f6
            have H6 := Lib.hid g6
            have hsz := hW.size
            have HK := Lib.hid hK
            clear hK hn
            rw [g6] at HK ⊢
            go_simp
            exact HK.out _ [W.heap.size] _ ((Below.refl _ _).alloc (Nat.le_refl _) _) (LitE.new _ _ _ W hsz) (fun b hb => by rw [List.mem_singleton.1 hb]; exact Nat.le_refl _)
          exact ⟨fun h => absurd h (by decide), fun h => absurd h (by decide), fun h => absurd h (by decide), trivial⟩
        case tail =>
          intro u β W hW hn hdis hbnd fr hfr
          simp only [frameL, putL, Act.put, List.setIfInBounds_toArray, List.set_cons_zero, List.set_cons_succ, Nat.zero_add, Nat.reduceAdd] at hfr
          subst hfr
          have eL : u 1 = .slice A3 j k3 := Have.get (k := 1) hn rfl
          have fO : LitE X.heap.size 25 #[u 6] 1 W (u 7) () (β 7) := Have.get (k := 7) hn rfl
          have f3 : IntsE X.heap.size W (u 3) [f 2, f 2] (β 3) := Have.get (k := 3) hn rfl
          have f5 : IntsE X.heap.size W (u 5) [f 3, f 3] (β 5) := Have.get (k := 5) hn rfl
          have f6 : LitE X.heap.size 38 #[u 3, u 5] 2 W (u 6) () (β 6) := Have.get (k := 6) hn rfl
          obtain ⟨b6, g6, hb6, hβ6, hl6⟩ := f6
          have hnd2 : (b6 :: [β 3, β 5].flatten).Nodup := by
            have m1 := (ints_ok _).nodup f3
            have m2 := (ints_ok _).nodup f5
            have k1 : b6 ∉ β 3 := fun h => hdis 3 6 (by decide) (by decide) (by decide) b6 h (by rw [hβ6]; simp)
            have k2 : b6 ∉ β 5 := fun h => hdis 5 6 (by decide) (by decide) (by decide) b6 h (by rw [hβ6]; simp)
            have k3 := hdis 3 5 (by decide) (by decide) (by decide)
            simp only [List.flatten_cons, List.flatten_nil, List.append_nil, List.nodup_cons, List.mem_append, not_or]
            exact ⟨⟨k1, k2⟩, List.nodup_append.2 ⟨m1, m2, fun a h1 b h2 e => k3 a h1 (e ▸ h2)⟩⟩
          have hr : Ints2E X.heap.size W (.slice (some ⟨b6, 0, none⟩) 2 2) [[f 2, f 2], [f 3, f 3]] (b6 :: [β 3, β 5].flatten) := many_lit 2 hb6 hl6 rfl ⟨f3, f5, trivial⟩ hnd2 (by unfold maxLen; omega)
          clear hnd2 f3 f5
          obtain ⟨bo, go, hbo, _, hlo⟩ := fO
          rw [g6] at hbo
          obtain ⟨f1, f2, f3, f4, hnd, hnb, hsub, hT, hb0, xb, hj⟩ := HX.out
          obtain ⟨vs, hrow', _⟩ := ((ints3_ok _).later f3 hW).held
          rw [← hj] at hrow'
          have hxbW := xb.later hW
          have hw0 : base ≤ W.heap.size := Nat.le_trans hb0 (Nat.le_trans hT.size hW.size)
          have hCC := Lib.hid (fun (w5 : World) (g1 cap1 : Nat) (hown : w5.ownsRow base 25 1 (.slice (some ⟨g1, 0, none⟩) (j + 1) cap1) (j + 1) (vs ++ [.slice (some ⟨b6, 0, none⟩) 2 2])) (hg : W.grownBy w5 (Value.slice A3 j k3).ownBlock) (hat : (Value.slice A3 j k3).ownBlock = some g1 ∨ g1 = W.heap.size) =>
            GrownAt.ret (x := [[f 2, f 2], [f 3, f 3]]) xb f1 f2 f3 f4 hnd hnb hsub hT hb0 hW hr hj.symm hrow' hown hg rfl hat)
          have hbn := Lib.hid (fun (w5 : World) (hg : W.grownBy w5 (Value.slice A3 j k3).ownBlock) => show Bx w5 b 31 _ from hxbW.same (hg.block b hxbW.lt (fun e => by
            have h1 := f3.held.choose_spec.2 b e.symm
            simp only [List.mem_append, not_or] at hnb
            exact hnb.2.2.1 h1)))
          clear f1 f2 f3 f4 hnd hnb hsub hT hb0 xb hj hxbW hn hdis hbnd hr
          show wpOps _ _ _ [8, 9, 10] _ _
          rw [wpOps_cons]
          refine wpOp_step rfl (fun K hK => ?_)
          refine step_append_lies _ rfl _ _ 24 rfl base 25 r0 (.slice none 0 0) 1 24 Try.underlying24 hr0 hr1 hr2 hr3 rfl (by decide) _ j _ eL hrow' ⟨bo, 0, none⟩ 1 1 [.slice (some ⟨b6, 0, none⟩) 2 2] go rfl (World.news_of_block hbo) (one_sing2 rfl) (by decide) ?c1 ?c2 ?c3 _ rfl ?_
          case c1 => unfold maxLen; omega
          case c2 => omega
          case c3 => exact hw0
          intro g1 cap1 w5 hown hg5 hat hltg
          refine hK _ _ ?_
          have hG5 := hCC.out w5 g1 cap1 hown hg5 hat
          have hb5 := hbn.out w5 hg5
          have q3 := hb5.cell 4 _ rfl
          have q4 := hb5.frozen 4
          have HG5 := Lib.hid hG5
          clear hown hg5 hat hK hb5 hG5
          rw [wpOps_cons]
          refine wpOp_step rfl (fun K2 hK => ?_)
          go_simp
          refine hK _ _ ?_
          clear hK
          rw [wpOps_cons]
          refine wpOp_step rfl (fun K3 hK => ?_)
          go_simp
          refine hK _ _ ?_
          clear hK
          unfold wpOps
          have hG5 := HG5.out
          obtain ⟨X1, hX1⟩ : ∃ X1, X1 = w5.setCell ⟨b, 4, none⟩ (.slice (some ⟨g1, 0, none⟩) (j + 1) cap1) := ⟨_, rfl⟩
          rw [← hX1] at hG5 ⊢
          have HG1 := Lib.hid hG5
          clear hG5 HG5 hX1 q3 q4 HX hCC hbn
          generalize u 0 = s0
          generalize u 1 = s1
          generalize u 2 = s2
          generalize u 3 = s3
          generalize u 4 = s4
          generalize u 5 = s5
          generalize u 6 = s6
          generalize u 7 = s7
          obtain ⟨c2, hc2⟩ : ∃ c2 : Ck, c2 = { c1 with ret := c1.ret ++ [[[f 2, f 2], [f 3, f 3]]] } := ⟨_, rfl⟩
          have hG5 := HG1.out
          rw [← hc2] at hG5
          have Hlen2 := Lib.hid (show c2.inner.length ≤ 100 by rw [hc2, HC.out]; simp [blindPre, plainCk]; omega)
          have HC2 := Lib.hid (show c2 = _ by rw [hc2, HC.out])
          have HA2 := Lib.hid (HAk.out _ _ hG5)
          have HG2 := Lib.hid hG5
          clear hG5 hc2 HG1 HG Hlen HC HA hr0 hr1 hr2 hr3 r0
          obtain ⟨X, rfl⟩ : ∃ X, X = X1 := ⟨_, rfl⟩
          obtain ⟨c1, rfl⟩ : ∃ c, c = c2 := ⟨_, rfl⟩
          have Hlen := Hlen2
          have HC := HC2
          have HA := HA2
          have HG := HG2
          clear Hlen2 HC2 HA2 HG2
          obtain ⟨⟨bs0, hbx, hsub⟩, hT, hb0⟩ := HG.out
          obtain ⟨va, vc, vr, vi, d1, d2, d3, d4, xb, f1, f2, f3, f4, rfl, hnd, hnb⟩ := hbx.ex
          obtain ⟨A1, k1, rfl⟩ := RowE.slice f1
          obtain ⟨A2, k2, rfl⟩ := ManyE.slice f2
          obtain ⟨A3, k3, rfl⟩ := ManyE.slice f3
          obtain ⟨A4, k4, rfl⟩ := ManyE.slice f4
          obtain ⟨j, hj⟩ : ∃ j, j = c1.inner.length := ⟨_, rfl⟩
          have hj100 : j ≤ 100 := by have := Hlen.out; omega
          rw [← hj] at xb f4
          have HX := Lib.hid (And.intro f1 (And.intro f2 (And.intro f3 (And.intro f4 (And.intro hnd (And.intro hnb (And.intro hsub (And.intro hT (And.intro hb0 (And.intro xb hj))))))))))
          clear hbx f1 f2 f3 f4 hnd hnb hsub hT hb0 xb hj
          obtain ⟨r0, hr0, hr1, hr2, hr3⟩ := info_parts toInfo_ints
          go_upto_region 9 with fail
          try rw [← HWX.out]
          refine wp_region_free_seq (by kernel_rfl) [
              .val [] (fun _ => .pointer (some ⟨b, 5, none⟩)),
              .val [] (fun _ => .slice A4 j k4),
              .val [] (fun _ => .func (.func 107) #[] #[.pointer (some ⟨w.heap.size, 0, none⟩), .pointer (some ⟨wr.heap.size, 0, none⟩)]),
              .val [] (fun _ => .int .i64 (f 4)),
              .val [] (fun _ => .func (.func 107) #[] #[.pointer (some ⟨w.heap.size, 0, none⟩), .pointer (some ⟨wr.heap.size, 0, none⟩)]),
              .val [] (fun _ => .int .i64 (f 5)),
              .own (LitE X.heap.size 2 #[.int .i64 (f 4), .int .i64 (f 5)] 2) (),
              .dep 6 (fun r => LitE X.heap.size 38 #[r] 1) ()] 8 ?hp ?hfw ?deps ?oks ?hforced ?hf ?steps ?tail
          case hp => kernel_rfl
          case hfw => kernel_rfl
          case deps => kernel_rfl
          case hforced => kernel_rfl
          case hf => kernel_rfl
          case oks =>
            intro F hF
            simp only [List.mem_cons, List.not_mem_nil, or_false] at hF
            rcases hF with rfl | rfl | rfl | rfl | rfl | rfl | rfl | rfl
            all_goals first | trivial | exact ⟨_, lit_ok _ _ _ _⟩ | exact ⟨_, ints_ok _⟩ | exact fun v => ⟨_, lit_ok _ _ _ _⟩
          case steps =>
            refine Steps.cons ?_ ?_
            · intro _
              refine FreeStep.val [] _ rfl rfl fun u β W hW hn fr hfr K hK => ?_
              simp only [frameL, putL, Act.put, List.setIfInBounds_toArray, List.set_cons_zero, List.set_cons_succ, Nat.zero_add, Nat.reduceAdd] at hfr
              subst hfr
              have HK := Lib.hid hK
              clear hK hn
              go_simp
              exact HK.out
            refine Steps.cons ?_ ?_
            · intro _
              refine FreeStep.val [] _ rfl rfl fun u β W hW hn fr hfr K hK => ?_
              simp only [frameL, putL, Act.put, List.setIfInBounds_toArray, List.set_cons_zero, List.set_cons_succ, Nat.zero_add, Nat.reduceAdd] at hfr
              subst hfr
              have e0 : u 0 = .pointer (some ⟨b, 5, none⟩) := Have.get (k := 0) hn rfl
              simp only [e0] at hK
              have c0 : W.cell? ⟨b, 5, none⟩ = some (.slice A4 j k4) := (HX.out.2.2.2.2.2.2.2.2.2.1.later hW).cell 5 _ rfl
              have HK := Lib.hid hK
              clear hK hn
              go_simp
              exact HK.out
            refine Steps.cons ?_ ?_
            · intro _
              refine FreeStep.val [] _ rfl rfl fun u β W hW hn fr hfr K hK => ?_
              simp only [frameL, putL, Act.put, List.setIfInBounds_toArray, List.set_cons_zero, List.set_cons_succ, Nat.zero_add, Nat.reduceAdd] at hfr
              subst hfr
              have c0 : W.cell? ⟨wr.heap.size + 1, 0, none⟩ = some (.func (.func 107) #[] #[.pointer (some ⟨w.heap.size, 0, none⟩), .pointer (some ⟨wr.heap.size, 0, none⟩)]) := (HA.out.later hW).goes
              have HK := Lib.hid hK
              clear hK hn
              go_simp
              exact HK.out
            refine Steps.cons ?_ ?_
            · intro _
              refine FreeStep.calm [] _ rfl rfl fun u β W hW hn fr hfr K hK => ?_
              simp only [frameL, putL, Act.put, List.setIfInBounds_toArray, List.set_cons_zero, List.set_cons_succ, Nat.zero_add, Nat.reduceAdd] at hfr
              subst hfr
              have e2 : u 2 = .func (.func 107) #[] #[.pointer (some ⟨w.heap.size, 0, none⟩), .pointer (some ⟨wr.heap.size, 0, none⟩)] := Have.get (k := 2) hn rfl
              simp only [e2] at hK
              have Q : Hid (Calls Try.prog 107 #[.int .u8 4, .pointer (some ⟨w.heap.size, 0, none⟩), .pointer (some ⟨wr.heap.size, 0, none⟩)] W fun e w' => e = .returned (.int .i64 (f 4)) ∧ W = w') := Lib.hid (by rw [HF.out]; exact Dep_to 4 W (by omega) hm hdlt (HA.out.later hW))
              have HK := Lib.hid hK
              clear hK hn
              go_simp
              refine Q.out.mono ?_
              rintro e w1 ⟨rfl, rfl⟩
              exact HK.out _ (Below.refl _ _)
            refine Steps.cons ?_ ?_
            · intro _
              refine FreeStep.val [] _ rfl rfl fun u β W hW hn fr hfr K hK => ?_
              simp only [frameL, putL, Act.put, List.setIfInBounds_toArray, List.set_cons_zero, List.set_cons_succ, Nat.zero_add, Nat.reduceAdd] at hfr
              subst hfr
              have c0 : W.cell? ⟨wr.heap.size + 1, 0, none⟩ = some (.func (.func 107) #[] #[.pointer (some ⟨w.heap.size, 0, none⟩), .pointer (some ⟨wr.heap.size, 0, none⟩)]) := (HA.out.later hW).goes
              have HK := Lib.hid hK
              clear hK hn
              go_simp
              exact HK.out
            refine Steps.cons ?_ ?_
            · intro _
              refine FreeStep.calm [] _ rfl rfl fun u β W hW hn fr hfr K hK => ?_
              simp only [frameL, putL, Act.put, List.setIfInBounds_toArray, List.set_cons_zero, List.set_cons_succ, Nat.zero_add, Nat.reduceAdd] at hfr
              subst hfr
              have e4 : u 4 = .func (.func 107) #[] #[.pointer (some ⟨w.heap.size, 0, none⟩), .pointer (some ⟨wr.heap.size, 0, none⟩)] := Have.get (k := 4) hn rfl
              simp only [e4] at hK
              have Q : Hid (Calls Try.prog 107 #[.int .u8 5, .pointer (some ⟨w.heap.size, 0, none⟩), .pointer (some ⟨wr.heap.size, 0, none⟩)] W fun e w' => e = .returned (.int .i64 (f 5)) ∧ W = w') := Lib.hid (by rw [HF.out]; exact Dep_to 5 W (by omega) hm hdlt (HA.out.later hW))
              have HK := Lib.hid hK
              clear hK hn
              go_simp
              refine Q.out.mono ?_
              rintro e w1 ⟨rfl, rfl⟩
              exact HK.out _ (Below.refl _ _)
            refine Steps.cons ?_ ?_
            · intro _
              refine FreeStep.own (base := X.heap.size) rfl (lit_ok _ _ _ _) fun u β W hW hn fr hfr K hK => ?_
              simp only [frameL, putL, Act.put, List.setIfInBounds_toArray, List.set_cons_zero, List.set_cons_succ, Nat.zero_add, Nat.reduceAdd] at hfr
              subst hfr
              have e3 : u 3 = .int .i64 (f 4) := Have.get (k := 3) hn rfl
              have e5 : u 5 = .int .i64 (f 5) := Have.get (k := 5) hn rfl
              simp only [e3, e5] at hK
              have hsz := hW.size
              have HK := Lib.hid hK
              clear hK hn
              go_simp
              exact HK.out _ [W.heap.size] _ ((Below.refl _ _).alloc (Nat.le_refl _) _) (LitE.new _ _ _ W hsz) (fun b hb => by rw [List.mem_singleton.1 hb]; exact Nat.le_refl _)
            refine Steps.cons ?_ ?_
            · intro _
              refine FreeStep.dep (base := X.heap.size) rfl (by decide) (fun v => lit_ok _ _ _ _) fun u β W hW hn fr hfr K hK => ?_
              simp only [frameL, putL, Act.put, List.setIfInBounds_toArray, List.set_cons_zero, List.set_cons_succ, Nat.zero_add, Nat.reduceAdd] at hfr
              subst hfr
              have f6 : LitE X.heap.size 2 #[.int .i64 (f 4), .int .i64 (f 5)] 2 W (u 6) () (β 6) := Have.get (k := 6) hn rfl
              obtain ⟨b6, g6, _, _, _⟩ := f6
              have H6 := Lib.hid g6
              have hsz := hW.size
              have HK := Lib.hid hK
              clear hK hn
              rw [g6] at HK ⊢
              go_simp
              exact HK.out _ [W.heap.size] _ ((Below.refl _ _).alloc (Nat.le_refl _) _) (LitE.new _ _ _ W hsz) (fun b hb => by rw [List.mem_singleton.1 hb]; exact Nat.le_refl _)
            exact ⟨fun h => absurd h (by decide), fun h => absurd h (by decide), fun h => absurd h (by decide), trivial⟩
          case tail =>
            intro u β W hW hn hdis hbnd fr hfr
            simp only [frameL, putL, Act.put, List.setIfInBounds_toArray, List.set_cons_zero, List.set_cons_succ, Nat.zero_add, Nat.reduceAdd] at hfr
            subst hfr
            have eL : u 1 = .slice A4 j k4 := Have.get (k := 1) hn rfl
            have fO : LitE X.heap.size 38 #[u 6] 1 W (u 7) () (β 7) := Have.get (k := 7) hn rfl
            have f6 : LitE X.heap.size 2 #[.int .i64 (f 4), .int .i64 (f 5)] 2 W (u 6) () (β 6) := Have.get (k := 6) hn rfl
            obtain ⟨b6, g6, hb6, hβ6, hl6⟩ := f6
            have hr : IntsE X.heap.size W (.slice (some ⟨b6, 0, none⟩) 2 2) [f 4, f 5] [b6] := rowE_lit 2 hb6 hl6 rfl rfl rfl (by unfold maxLen; omega)
            obtain ⟨bo, go, hbo, _, hlo⟩ := fO
            rw [g6] at hbo
            obtain ⟨f1, f2, f3, f4, hnd, hnb, hsub, hT, hb0, xb, hj⟩ := HX.out
            obtain ⟨vs, hrow', _⟩ := ((ints2_ok _).later f4 hW).held
            rw [← hj] at hrow'
            have hxbW := xb.later hW
            have hw0 : base ≤ W.heap.size := Nat.le_trans hb0 (Nat.le_trans hT.size hW.size)
            have hCC := Lib.hid (fun (w5 : World) (g1 cap1 : Nat) (hown : w5.ownsRow base 38 1 (.slice (some ⟨g1, 0, none⟩) (j + 1) cap1) (j + 1) (vs ++ [.slice (some ⟨b6, 0, none⟩) 2 2])) (hg : W.grownBy w5 (Value.slice A4 j k4).ownBlock) (hat : (Value.slice A4 j k4).ownBlock = some g1 ∨ g1 = W.heap.size) =>
              GrownAt.inner (x := [f 4, f 5]) xb f1 f2 f3 f4 hnd hnb hsub hT hb0 hW hr hj.symm hrow' hown hg rfl hat)
            have hbn := Lib.hid (fun (w5 : World) (hg : W.grownBy w5 (Value.slice A4 j k4).ownBlock) => show Bx w5 b 31 _ from hxbW.same (hg.block b hxbW.lt (fun e => by
              have h1 := f4.held.choose_spec.2 b e.symm
              simp only [List.mem_append, not_or] at hnb
              exact hnb.2.2.2 h1)))
            clear f1 f2 f3 f4 hnd hnb hsub hT hb0 xb hj hxbW hn hdis hbnd hr
            show wpOps _ _ _ [8, 9, 10] _ _
            rw [wpOps_cons]
            refine wpOp_step rfl (fun K hK => ?_)
            refine step_append_lies _ rfl _ _ 25 rfl base 38 r0 (.slice none 0 0) 1 24 Try.underlying25 hr0 hr1 hr2 hr3 rfl (by decide) _ j _ eL hrow' ⟨bo, 0, none⟩ 1 1 [.slice (some ⟨b6, 0, none⟩) 2 2] go rfl (World.news_of_block hbo) (one_sing2 rfl) (by decide) ?c1 ?c2 ?c3 _ rfl ?_
            case c1 => unfold maxLen; omega
            case c2 => omega
            case c3 => exact hw0
            intro g1 cap1 w5 hown hg5 hat hltg
            refine hK _ _ ?_
            have hG5 := hCC.out w5 g1 cap1 hown hg5 hat
            have hb5 := hbn.out w5 hg5
            have q3 := hb5.cell 5 _ rfl
            have q4 := hb5.frozen 5
            have HG5 := Lib.hid hG5
            clear hown hg5 hat hK hb5 hG5
            rw [wpOps_cons]
            refine wpOp_step rfl (fun K2 hK => ?_)
            go_simp
            refine hK _ _ ?_
            clear hK
            rw [wpOps_cons]
            refine wpOp_step rfl (fun K3 hK => ?_)
            go_simp
            refine hK _ _ ?_
            clear hK
            unfold wpOps
            have hG5 := HG5.out
            obtain ⟨X1, hX1⟩ : ∃ X1, X1 = w5.setCell ⟨b, 5, none⟩ (.slice (some ⟨g1, 0, none⟩) (j + 1) cap1) := ⟨_, rfl⟩
            rw [← hX1] at hG5 ⊢
            have HG1 := Lib.hid hG5
            clear hG5 HG5 hX1 q3 q4 HX hCC hbn
            generalize u 0 = s0
            generalize u 1 = s1
            generalize u 2 = s2
            generalize u 3 = s3
            generalize u 4 = s4
            generalize u 5 = s5
            generalize u 6 = s6
            generalize u 7 = s7
            have hG5 := HG1.out
            have hce : ({ c1 with inner := c1.inner ++ [[f 4, f 5]] } : Ck) = blindPre n (d + 1) (depthTo m) := by rw [HC.out, HF.out]; exact blind_succ n d _
            rw [hce] at hG5
            have HG6 := Lib.hid (Hst.out _ hG5)
            clear hG5 HG1 hce
            go_wp2
            go_roundw
            case rel => exact ⟨d + 1, by omega, by go_num, HG6.out⟩
            case measure => simp [intOf]; omega
    · have e : d = n := by omega
      subst e
      obtain ⟨c9, hc9⟩ : ∃ c9, c9 = blindPre d d (depthTo m) := ⟨_, rfl⟩
      rw [← hc9, HSZ.out.2.2.2.1] at hG
      have H9 := Lib.hid hc9.symm
      obtain ⟨X, rfl⟩ : ∃ X, X = wr := ⟨_, rfl⟩
      have HG9 := Lib.hid hG
      clear hG hc9 HGk HG0
      obtain ⟨⟨bs9, hbx9, hsub9⟩, hT9, hb9⟩ := HG9.out
      obtain ⟨va, vc, vr, vi, d1, d2, d3, d4, xb, f1, f2, f3, f4, rfl, hnd, hnb⟩ := hbx9.ex
      obtain ⟨A5, k5, rfl⟩ := RowE.slice f1
      obtain ⟨C5, kc5, rfl⟩ := ManyE.slice f2
      obtain ⟨R5, kr5, rfl⟩ := ManyE.slice f3
      obtain ⟨I5, ki5, rfl⟩ := ManyE.slice f4
      have xr : Bx X (w.heap.size + 1) 31 #[.int .i64 0, .int .i64 0, .slice none 0 0, .slice none 0 0, .slice none 0 0, .slice none 0 0] := HR.out.1.same (hT9.block (w.heap.size + 1) HR.out.1.lt HR.out.2.2)
      have hBX : Below Wr.heap.size Wr X := hT9.below HR.out.2.1 HR.out.2.1.size (fun k hk => HW1.out k hk)
      have Hf := Lib.hid (And.intro f1 (And.intro f2 (And.intro f3 (And.intro f4 (And.intro hnd (And.intro hBX xr))))))
      obtain ⟨z0, z1, z2, z3, z4, z5, zl⟩ := id xb.all6
      obtain ⟨r0, r1, r2, r3, r4, r5, rl⟩ := id xr.all6
      have q0 := xr.frozen 0
      have q1 := xr.frozen 1
      have q2 := xr.frozen 2
      have q3 := xr.frozen 3
      have q4 := xr.frozen 4
      have q5 := xr.frozen 5
      clear f1 f2 f3 f4 hnd hnb hbx9 xr xb hT9 hsub9 hBX
      go_wp2
      obtain ⟨f1, f2, f3, f4, hnd, hBX, xr⟩ := Hf.out
      have hBr0 := HBr.out
      have x5' := (((((xr.set 0 (.int .i64 c9.stack)).set 1 (.int .i64 c9.start)).set 2 (.slice A5 c9.accept.length k5)).set 3 (.slice C5 c9.call.length kc5)).set 4 (.slice R5 c9.ret.length kr5)).set 5 (.slice I5 c9.inner.length ki5)
      have hfr : ∀ (V : World) (i : Nat) (v : Value) (k : Nat), w.heap.size + 1 < k → (V.setCell ⟨w.heap.size + 1, i, none⟩ v).heap[k]? = V.heap[k]? := fun V i v k hk => Below.heap_setCell V ⟨w.heap.size + 1, i, none⟩ v k (fun e => by
        have h2 : k = w.heap.size + 1 := e
        omega)
      obtain ⟨Wf, hWf⟩ : ∃ Wf, Wf = (((((X.setCell ⟨w.heap.size + 1, 0, none⟩ (.int .i64 c9.stack)).setCell ⟨w.heap.size + 1, 1, none⟩ (.int .i64 c9.start)).setCell ⟨w.heap.size + 1, 2, none⟩ (.slice A5 c9.accept.length k5)).setCell ⟨w.heap.size + 1, 3, none⟩ (.slice C5 c9.call.length kc5)).setCell ⟨w.heap.size + 1, 4, none⟩ (.slice R5 c9.ret.length kr5)).setCell ⟨w.heap.size + 1, 5, none⟩ (.slice I5 c9.inner.length ki5) := ⟨_, rfl⟩
      have hkeep : ∀ k, w.heap.size + 1 < k → Wf.heap[k]? = X.heap[k]? := fun k hk => by
        rw [hWf, hfr _ _ _ k hk, hfr _ _ _ k hk, hfr _ _ _ k hk, hfr _ _ _ k hk, hfr _ _ _ k hk, hfr _ _ _ k hk]
      have hBf : Below w.heap.size w Wf := by
        rw [hWf]
        exact ((((((hBr0.trans (hBX.mono hBr0.size)).setCell (p := ⟨w.heap.size + 1, 0, none⟩) (by simp) _).setCell (p := ⟨w.heap.size + 1, 1, none⟩) (by simp) _).setCell (p := ⟨w.heap.size + 1, 2, none⟩) (by simp) _).setCell (p := ⟨w.heap.size + 1, 3, none⟩) (by simp) _).setCell (p := ⟨w.heap.size + 1, 4, none⟩) (by simp) _).setCell (p := ⟨w.heap.size + 1, 5, none⟩) (by simp) _
      rw [← hWf] at x5' ⊢
      have hlt0 := HWL.out
      have F1 := bools_base HBr.out.size _ _ _ _ ((bools_ok _).kept f1 fun k hk => hkeep k (by have := ((bools_ok _).lt f1 k hk).1; omega))
      have F2 := pushes2_base HBr.out.size _ _ _ _ ((push2_ok _).kept f2 fun k hk => hkeep k (by have := ((push2_ok _).lt f2 k hk).1; omega))
      have F3 := ints3_base HBr.out.size _ _ _ _ ((ints3_ok _).kept f3 fun k hk => hkeep k (by have := ((ints3_ok _).lt f3 k hk).1; omega))
      have F4 := ints2_base HBr.out.size _ _ _ _ ((ints2_ok _).kept f4 fun k hk => hkeep k (by have := ((ints2_ok _).lt f4 k hk).1; omega))
      have e0 := x5'.cell 0 (.int .i64 c9.stack) rfl
      have e1 := x5'.cell 1 (.int .i64 c9.start) rfl
      have e2 := x5'.cell 2 (.slice A5 c9.accept.length k5) rfl
      have e3 := x5'.cell 3 (.slice C5 c9.call.length kc5) rfl
      have e4 := x5'.cell 4 (.slice R5 c9.ret.length kr5) rfl
      have e5 := x5'.cell 5 (.slice I5 c9.inner.length ki5) rfl
      rw [H9.out]
      exact bodyPost_ret (v := .agg #[.int .i64 c9.stack, .int .i64 c9.start, .slice A5 c9.accept.length k5, .slice C5 c9.call.length kc5, .slice R5 c9.ret.length kr5, .slice I5 c9.inner.length ki5]) (by simp [results, Try.results64, go_sem, e0, e1, e2, e3, e4, e5]) rfl ⟨_, _, rfl, ⟨_, _, _, _, d1, d2, d3, d4, rfl, F1, F2, F3, F4, rfl, hnd⟩, hBf⟩
end Go.Proofs.Ytdehehdcjfaefab
