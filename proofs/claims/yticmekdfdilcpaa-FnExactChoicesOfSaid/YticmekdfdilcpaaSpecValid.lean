/- ValidChecker of the model. -/
import Derived.Test.YticmekdfdilcpaaOk
import Derived.Test.YticmekdfdilcpaaVWalk
namespace Go.Proofs.Yticmekdfdilcpaa
open Go.RowKit
set_option linter.unusedVariables false
theorem mv_st (n stack : Int) (cs : List (Int × Int)) (rs : List (List Int)) (ns : List Int) : mvB n stack cs rs ns = stB n stack cs rs ns := by
  unfold mvB stB
  by_cases l2 : cs.length = 2
  case neg => simp [l2]
  by_cases l3 : rs.length = 2
  case neg => simp [l3]
  match cs, l2, rs, l3 with
  | [x, y], _, [r, s], _ =>
    have e : decide ((ns.length : Int) = 2) = decide (ns.length = 2) := decide_eq_decide.2 (by omega)
    have el : listB ns 2 n = (decide (ns.length = 2) && allB ns n) := by rw [listB, e]
    have et : twoB n stack [x, y] [r, s] 2 = (kB n stack x r && kB n stack y s) := by simp [twoB, List.range_succ]
    have ec : [x, y].all (pB n stack) = (pB n stack x && pB n stack y) := by simp
    have er : ([r, s].all fun r => listB r (stack + 1) n) = (listB r (stack + 1) n && listB s (stack + 1) n) := by simp
    rw [el, et, ec, er, kB, kB, pB, pB]
    ac_rfl
theorem okM_okB (c : Ck) : okM c = okB c := by
  unfold okM okB allM allS
  simp only [mv_st]
  rfl

end Go.Proofs.Yticmekdfdilcpaa
