/- StillHeart: its model is true. -/
import Derived.Test.YtnfahoomoelmcaaSyL2
import Derived.Test.YtnfahoomoelmcaaMaHeartF
namespace Go.Proofs.Ytnfahoomoelmcaa
open Go.RowKit Go.Proofs.Try

theorem heartLaw_loop {xs : List MDrawn} {l : List Int} {q : MPot} {f : Nat} {t e last : Int} {by' : List Int} (hg : Goods xs l) (h64 : l.length ≤ 64) (ht : 1 ≤ t ∧ t ≤ 10000) (hS : HeartSt xs f t (l.length - f) e last) (hby : ∀ j, 0 ≤ by'.getD j default ∧ by'.getD j default ≤ 4294967295) (hlen : 0 < by'.length) :
    ∀ (n k : Nat) (alc : Int), f + k ≤ l.length → l.length + 1 ≤ n + (f + k) → sumL xs f k ≤ alc → alc ≤ k * 1073741824 → wormtublaw04_StillHeart_l1 t by' (last, e) (xs, q, 0) n (alc, sumL xs f k, sumA xs f k, ((f + k : Nat) : Int)) = some (Lp.done ()) := by
  intro n
  induction n with
  | zero => intro k alc h1 h2; omega
  | succ n ih =>
    intro k alc h1 h2 h3 h4
    have hln := hg.len
    rw [wormtublaw04_StillHeart_l1]
    dsimp only
    by_cases hi : f + k < l.length
    · have hb := sums_in hg f k (by omega)
      have hb2 := sums_in hg f (k + 1) (by omega)
      have hu := tgt ht (show k + 1 ≤ 65 by omega) hb2.1
      obtain ⟨x1, x2, x3, x4, x5, x6⟩ := hg.all (f + k) hi
      have e1 : (((f + k : Nat) : Int) + 1) = ((f + (k + 1) : Nat) : Int) := by omega
      have m0 := Int.emod_nonneg ((f + k : Nat) : Int) (b := (by'.length : Int)) (by omega)
      have m1 := Int.emod_lt_of_pos ((f + k : Nat) : Int) (b := (by'.length : Int)) (by omega)
      rw [cond_t (by simp; omega), Int.toNat_natCast, tmod_eq (show (0 : Int) ≤ ((f + k : Nat) : Int) by omega), grd_pos ⟨by omega, by omega, m0, m1⟩]
      obtain ⟨v, hv, v1, v2⟩ := inner_ok (s := MSpan.mk (xs.getD (f + k) default).alcohol.lo (xs.getD (f + k) default).alcohol.hi) (by dsimp only; omega) (by dsimp only; omega) (by dsimp only; omega) (.inl (by dsimp only; omega)) (hby (Int.toNat (((f + k : Nat) : Int) % by'.length)))
      dsimp only at v1 v2
      rw [bind_ok hv]
      have s1 : sumL xs f (k + 1) = sumL xs f k + (xs.getD (f + k) default).alcohol.lo := rfl
      rw [show sumA xs f k + (xs.getD (f + k) default).amount = sumA xs f (k + 1) from rfl, show sumL xs f k + (xs.getD (f + k) default).alcohol.lo = sumL xs f (k + 1) from rfl]
      have key1 : e = 0 → ((f + k : Nat) : Int) = last → t * sumA xs f (k + 1) ≤ sumL xs f (k + 1) * 10000 := fun he hk => by
        rcases hS with ⟨g1, _⟩ | ⟨_, j, g2, g3, g4, _⟩
        · omega
        · have : j = k := by omega
          subst this
          exact g4
      have key2 : e ≠ 0 ∨ last < ((f + k : Nat) : Int) → ¬ t * sumA xs f (k + 1) ≤ sumL xs f (k + 1) * 10000 := fun he => by
        rcases hS with ⟨_, _, g1⟩ | ⟨g1, j, g2, g3, g4, g5⟩
        · exact g1 k (by omega)
        · exact g5 k (by omega) (by omega)
      have hih := ih (k + 1) (alc + v) (by omega) (by omega) (by omega) (by omega)
      generalize sumA xs f (k + 1) = A at *
      generalize sumL xs f (k + 1) = L at *
      generalize t * A = T at *
      rw [grd_pos ⟨by omega, by omega, by omega⟩, grd_pos ⟨fun _ => by omega, fun _ => by omega⟩, cond_f ?_, grd_pos ⟨fun _ => by omega, fun _ => by omega⟩, cond_f ?_, grd_pos (by omega), e1]
      · exact hih
      · refine Bool.eq_false_iff.2 fun h => ?_
        simp only [Bool.and_eq_true, Bool.or_eq_true, decide_eq_true_eq, bne_iff_ne] at h
        exact key2 h.1 h.2
      · refine Bool.eq_false_iff.2 fun h => ?_
        simp only [Bool.and_eq_true, decide_eq_true_eq, beq_iff_eq] at h
        have := key1 h.1.1 h.1.2
        omega
    · rw [cond_f (by simp; omega)]
theorem heart_true (c : MCurve) (p : MPot) (l : List Int) (from' t : Int) (by' : List Int) (hl : c.liquid.length ≤ 140737488355328) (hl2 : l.length ≤ 140737488355328) (hby : ∀ j, 0 ≤ by'.getD j default ∧ by'.getD j default ≤ 4294967295) : wormtublaw04_StillHeart FU c p l from' t by' = some true := by
  unfold wormtublaw04_StillHeart wormtublaw04_long
  rw [Option.bind_some]
  generalize (decide (40 < (c.liquid.length : Int)) || decide (40 < (c.vapour.length : Int)) || decide (70 < (l.length : Int))) = g
  by_cases h0 : g = true ∨ by'.length = 0
  · rw [cond_t (by simpa using h0), bind_ok alive_true]
  rw [cond_f (by refine Bool.eq_false_iff.2 fun h => h0 ?_; simpa using h)]
  obtain ⟨k, r, x, hE, hr, e3, _, h3⟩ := heart_both c p l from' t hl hl2
  have e3' : still_Heart FU c (MPot.mk p.volume (MSpan.mk p.alcohol.lo p.alcohol.hi)) l from' t = some x := e3
  have hr' : runOf FU c (MPot.mk p.volume (MSpan.mk p.alcohol.lo p.alcohol.hi)) l = some r := hr
  rw [bind_ok e3']
  rcases h3 with ⟨k1, k2, k3⟩ | ⟨k1, hg, h64, ht, f, rfl, hf, hS⟩
  · rw [cond_t (by simp only [Bool.and_eq_true, bne_iff_ne]; exact ⟨k1, k2⟩), k3]
    simp [alive_true]
  · obtain ⟨last, e⟩ := x
    obtain ⟨xs, q, z⟩ := r
    dsimp only at k1 hg hS
    subst k1
    have hln := hg.len
    rw [cond_f ?_, bind_ok hr', cond_f ?_]
    · rw [show wormtublaw04_StillHeart_l1 t by' (last, e) (xs, q, 0) FU (0, 0, 0, (f : Int)) = _ from heartLaw_loop hg h64 ht hS hby (by omega) FU 0 0 (by omega) (by show l.length + 1 ≤ 1099511627776 + (f + 0); omega) (Int.le_refl _) (by omega)]
      show wormtublaw04_StillHeart_k1 FU () = _
      rw [wormtublaw04_StillHeart_k1, bind_ok alive_true]
    · refine Bool.eq_false_iff.2 fun h => ?_
      simp only [Bool.and_eq_true, Bool.or_eq_true, decide_eq_true_eq, beq_iff_eq, bne_iff_ne] at h
      rcases hS with ⟨g1, g2, g3⟩ | ⟨g1, j, g2, g3, g4, g5⟩ <;> omega
    · refine Bool.eq_false_iff.2 fun h => ?_
      simp only [Bool.and_eq_true, bne_iff_ne] at h
      rcases hS with ⟨g1, g2, g3⟩ | ⟨g1, j, g2, g3, g4, g5⟩
      · exact h.2 g1
      · exact h.1 g1
end Go.Proofs.Ytnfahoomoelmcaa
