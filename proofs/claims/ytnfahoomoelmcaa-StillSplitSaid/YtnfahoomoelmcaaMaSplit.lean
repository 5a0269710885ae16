/- StillSplit: its model is true. -/
import Derived.Test.YtnfahoomoelmcaaSyL7
import Derived.Test.YtnfahoomoelmcaaMaFacts
namespace Go.Proofs.Ytnfahoomoelmcaa
open Go.RowKit Go.Proofs.Try

/-- what is drawn in two parts leaves what it leaves in one -/
theorem hand_split {c : MCurve} : ∀ (l : List Int) (k : Nat) (p : MPot), (handV c p l).2.2 = none → (handV c p (l.take k)).2.2 = none ∧ (handV c (handV c p (l.take k)).2.1 (l.drop k)).2.2 = none ∧ (handV c p (l.take k)).1 ++ (handV c (handV c p (l.take k)).2.1 (l.drop k)).1 = (handV c p l).1 ∧ (handV c (handV c p (l.take k)).2.1 (l.drop k)).2.1 = (handV c p l).2.1
  | [], 0, p, h => ⟨rfl, rfl, rfl, rfl⟩
  | [], k + 1, p, h => ⟨rfl, rfl, rfl, rfl⟩
  | d :: r, 0, p, h => ⟨rfl, h, rfl, rfl⟩
  | d :: r, k + 1, p, h => by
    rw [List.take_succ_cons, List.drop_succ_cons]
    cases e : stepV c p d with
    | error j =>
      unfold handV at h
      rw [e] at h
      cases h
    | ok y =>
      have h1 : ∀ r, handV c p (d :: r) = (y.1 :: (handV c y.2 r).1, (handV c y.2 r).2) := fun r => by rw [handV, e]
      rw [h1] at h
      rw [h1, h1]
      obtain ⟨a1, a2, a3, a4⟩ := hand_split r k y.2 h
      exact ⟨a1, a2, congrArg (y.1 :: ·) a3, a4⟩
theorem run_good {c : MCurve} {p : MPot} {l : List Int} (hl : c.liquid.length ≤ 140737488355328) (h : Valid c) (hp : PotOK p) (h64 : l.length ≤ 64) (hn : (handV c p l).2.2 = none) : runOf FU c p l = some ((handV c p l).1, (handV c p l).2.1, 0) := by
  rw [(runOf_eq c p l hl).2.2 h64 h hp]
  unfold runV
  rw [hn]
theorem split_true (c : MCurve) (p : MPot) (l : List Int) (at' : Int) (hl : c.liquid.length ≤ 140737488355328) (hat : 0 ≤ at' ∧ at' ≤ 255) : wormtublaw04_StillSplit FU c p l at' = some true := by
  unfold wormtublaw04_StillSplit wormtublaw04_long
  rw [Option.bind_some]
  cases (decide (40 < (c.liquid.length : Int)) || decide (40 < (c.vapour.length : Int)) || decide (70 < (l.length : Int))) with
  | true => rw [cond_t rfl, bind_ok alive_true]
  | false =>
    rw [cond_f rfl]
    obtain ⟨k, r, _, ⟨er, _⟩, hE⟩ := run_end c p l hl
    refine (bind_ok er _).trans ?_
    cases hE with
    | early k hk =>
      rw [cond_t (by rcases hk with rfl | rfl <;> rfl)]
      simp [alive_true]
    | died h hp h64 k hk hn =>
      rw [cond_t (by rcases hk with rfl | rfl <;> rfl)]
      simp [alive_true]
    | good h hp h64 hn hg hq =>
      refine (cond_f (show ((0 : Int) != 0) = false from rfl) _ _).trans ?_
      have hK : at'.tmod ((l.length : Int) + 1) = at' % ((l.length : Int) + 1) := Int.tmod_eq_emod_of_nonneg hat.1
      have k0 := Int.emod_nonneg at' (show (l.length : Int) + 1 ≠ 0 by omega)
      have k1 := Int.emod_lt_of_pos at' (show 0 < (l.length : Int) + 1 by omega)
      rw [← hK] at k0 k1
      clear hK
      generalize at'.tmod ((l.length : Int) + 1) = K at *
      obtain ⟨n, rfl⟩ : ∃ n : Nat, K = n := ⟨K.toNat, by omega⟩
      obtain ⟨s1, s2, s3, s4⟩ := hand_split l n p hn
      have eA := run_good (l := l.take n) hl h hp (by rw [List.length_take]; omega) s1
      obtain ⟨gA, qA⟩ := hand_goods h hp s1
      have eB := run_good (l := l.drop n) hl h qA (by rw [List.length_drop]; omega) s2
      have hlen := congrArg List.length s3
      rw [List.length_append, hg.len] at hlen
      have eS : wormtubref04_SameDrawn FU ((handV c p (l.take n)).1 ++ (handV c (handV c p (l.take n)).2.1 (l.drop n)).1) (handV c p l).1 = some true := by
        rw [s3]
        exact same_eq _ (by rw [hg.len]; omega)
      rw [grd_pos ⟨by omega, by omega, by omega⟩, grd_pos ⟨by omega, by omega⟩, Int.toNat_natCast]
      refine (bind_ok eA _).trans ((bind_ok eB _).trans ((grd_pos ⟨rfl, rfl, congrArg MPot.volume s4, congrArg (fun p => p.alcohol.lo) s4, congrArg (fun p => p.alcohol.hi) s4, hg.len, by dsimp only; omega⟩ _).trans ((bind_ok eS _).trans ((grd_pos rfl _).trans ?_))))
      cases l with
      | nil => rw [cond_f (by simp), bind_ok alive_true]
      | cons d rest =>
        rw [cond_t (by simp)]
        cases e : stepV c p d with
        | error j =>
          unfold handV at hn
          rw [e] at hn
          cases hn
        | ok y =>
          have eD : still_Draw FU c p d = some (y.1, y.2, 0) := by
            rw [Draw_eq h hl hp, e]
            rfl
          have e1 : (handV c p (d :: rest)).1 = y.1 :: (handV c y.2 rest).1 := by rw [handV, e]
          refine (grd_pos ⟨by omega, by simp⟩ _).trans ((bind_ok eD _).trans ((grd_pos ⟨by omega, by rw [hg.len]; simp⟩ _).trans ?_))
          rw [e1]
          simp [alive_true]
end Go.Proofs.Ytnfahoomoelmcaa
