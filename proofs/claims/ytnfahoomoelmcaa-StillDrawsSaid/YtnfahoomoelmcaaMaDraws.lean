/- StillDraws: its model is true. -/
import Derived.Test.YtnfahoomoelmcaaSyL3
import Derived.Test.YtnfahoomoelmcaaMaRef
namespace Go.Proofs.Ytnfahoomoelmcaa
open Go.RowKit Go.Proofs.Try

theorem draws_true (c : MCurve) (p : MPot) (s : MSpan) (d : Int) (l : List Int) (hl : c.liquid.length ≤ 140737488355328) : wormtublaw04_StillDraws FU c p s d l = some true := by
  unfold wormtublaw04_StillDraws wormtublaw04_long
  rw [Option.bind_some]
  cases (decide (40 < (c.liquid.length : Int)) || decide (40 < (c.vapour.length : Int)) || decide (70 < (l.length : Int))) with
  | true => rw [cond_t rfl, bind_ok alive_true]
  | false =>
    obtain ⟨r3, e3, e4⟩ := vapour_both c s hl
    obtain ⟨r5, e5, e6⟩ := draw_both c p d hl
    obtain ⟨r7, e7, e8, h7⟩ := run_both c p l hl
    obtain ⟨r9, e9, e10⟩ := check_both c hl
    rw [cond_f rfl, bind_ok e3, bind_ok e4]
    refine (bind_ok e5 _).trans ((bind_ok e6 _).trans ((bind_ok e7 _).trans ((bind_ok e8 _).trans ?_)))
    rw [bind_ok e9, bind_ok e10]
    simp only [beq_self_eq_true, Bool.and_self, cond_true, same_eq r7.1 (by omega), Bool.and_true, alive_true, Option.bind_some]
end Go.Proofs.Ytnfahoomoelmcaa
