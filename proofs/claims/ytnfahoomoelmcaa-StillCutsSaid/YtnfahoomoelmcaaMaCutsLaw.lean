/- StillCuts: its model is true. -/
import Derived.Test.YtnfahoomoelmcaaSyL3
import Derived.Test.YtnfahoomoelmcaaMaCuts
import Derived.Test.YtnfahoomoelmcaaMaHeartF
namespace Go.Proofs.Ytnfahoomoelmcaa
open Go.RowKit Go.Proofs.Try

theorem cuts_true (c : MCurve) (p : MPot) (l : List Int) (fore cut fin from' t : Int) (hl : c.liquid.length ≤ 140737488355328) (hl2 : l.length ≤ 140737488355328) : wormtublaw04_StillCuts FU c p l fore cut fin from' t = some true := by
  unfold wormtublaw04_StillCuts wormtublaw04_long
  rw [Option.bind_some]
  cases (decide (40 < (c.liquid.length : Int)) || decide (40 < (c.vapour.length : Int)) || decide (70 < (l.length : Int))) with
  | true => rw [cond_t rfl, bind_ok alive_true]
  | false =>
    obtain ⟨k, r, x, _, _, e3, e4, h3⟩ := cuts_both c p l fore cut fin hl
    obtain ⟨_, _, y, _, _, e5, e6, _⟩ := heart_both c p l from' t hl hl2
    rw [cond_f rfl]
    refine (bind_ok e3 _).trans ((bind_ok e4 _).trans ((bind_ok e5 _).trans ((bind_ok e6 _).trans ?_)))
    have hx : x.1.length ≤ 1000000 := by
      rcases h3 with ⟨_, h⟩ | ⟨_, hg, h64, _, _, _, rfl⟩
      · rw [h]; simp
      · rw [cutsV_len, hg.len]; omega
    simp only [ints_eq x.1 hx, beq_self_eq_true, Bool.and_self, cond_true, alive_true, Option.bind_some]
end Go.Proofs.Ytnfahoomoelmcaa
