/- StillOwns: its model is true. -/
import Derived.Test.YtnfahoomoelmcaaSyL8
import Derived.Test.YtnfahoomoelmcaaMaCuts
namespace Go.Proofs.Ytnfahoomoelmcaa
open Go.RowKit Go.Proofs.Try

theorem owns_loop (c : MCurve) (hv : c.vapour.length ≤ 1000000) : ∀ (n i : Nat), i ≤ c.vapour.length → c.vapour.length + 1 ≤ n + i → wormtublaw04_StillOwns_l1 c n (i : Int) = some (Lp.done ()) := by
  intro n
  induction n with
  | zero => intro i h1 h2; omega
  | succ n ih =>
    intro i h1 h2
    rw [wormtublaw04_StillOwns_l1]
    by_cases hi : i < c.vapour.length
    · rw [cond_t (by simp; omega), grd_pos ⟨by omega, by omega⟩, cond_f (by simp), grd_pos (by omega), show ((i : Int) + 1) = ((i + 1 : Nat) : Int) by omega]
      exact ih (i + 1) (by omega) (by omega)
    · rw [cond_f (by simp; omega)]
theorem owns_true (c : MCurve) (p : MPot) (l : List Int) (hl : c.liquid.length ≤ 140737488355328) : wormtublaw04_StillOwns FU c p l = some true := by
  unfold wormtublaw04_StillOwns wormtublaw04_long
  rw [Option.bind_some]
  cases hb : (decide (40 < (c.liquid.length : Int)) || decide (40 < (c.vapour.length : Int)) || decide (70 < (l.length : Int))) with
  | true => rw [cond_t rfl, bind_ok alive_true]
  | false =>
    rw [cond_f rfl]
    simp only [Bool.or_eq_false_iff, decide_eq_false_iff_not] at hb
    obtain ⟨⟨h1, h2⟩, h3⟩ := hb
    obtain ⟨k, r, x, _, hr, e3, _, _⟩ := cuts_both c p l 5 4 3 hl
    obtain ⟨r', hr', _, h64⟩ := run_both c p l hl
    have e : r = r' := Option.some.inj (hr.symm.trans hr')
    subst e
    rw [grd_pos ⟨by omega, by omega, by omega⟩]
    refine (bind_ok hr _).trans ((grd_pos ⟨by omega, by show r.1.length < 1099511627776; omega⟩ _).trans ((bind_ok hr _).trans ((bind_ok e3 _).trans ?_)))
    rw [show wormtublaw04_StillOwns_l1 c FU 0 = _ from owns_loop c (by omega) FU 0 (by omega) (by show c.vapour.length + 1 ≤ 1099511627776 + 0; omega)]
    show wormtublaw04_StillOwns_k1 FU c l r r () = _
    unfold wormtublaw04_StillOwns_k1
    rw [bind_ok (ints_eq c.liquid (by omega))]
    simp [ints_eq l (by omega), same_eq r.1 (by omega), alive_true]
end Go.Proofs.Ytnfahoomoelmcaa
