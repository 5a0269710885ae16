/- StillLasts: its model is true. -/
import Derived.Test.YtnfahoomoelmcaaSyL1
import Derived.Test.YtnfahoomoelmcaaMaA
namespace Go.Proofs.Ytnfahoomoelmcaa
open Go.RowKit Go.Proofs.Try

theorem lasts_loop {thick wear : MSpan} {least N M : Int} {by' : List Int} (hw : Okay 0 1073741824 wear) (ht : Okay 0 1073741824 thick) (hl : 0 ≤ least ∧ least ≤ thick.lo) (n0 : N = -1 → wear.hi = 0) (nm : 0 ≤ N → N * wear.hi ≤ thick.lo - least) (mm : 0 ≤ M → thick.hi - least < (M + 1) * wear.lo) (n1 : -1 ≤ N) (hby : ∀ j, 0 ≤ by'.getD j default ∧ by'.getD j default ≤ 4294967295) (hlen : 0 < by'.length) :
    ∀ (n : Nat) (now i : Int), 0 ≤ i → i ≤ 101 → 102 ≤ n + i → thick.lo - i * wear.hi ≤ now → now ≤ thick.hi - i * wear.lo → wormtublaw04_StillLasts_l1 wear least by' (N, M, 0) n (now, i) = some (Lp.done ()) := by
  intro n
  induction n with
  | zero => intro now i _ _ h; omega
  | succ n ih =>
    intro now i h0 h1 hn hlo hhi
    rw [wormtublaw04_StillLasts_l1]
    dsimp only
    obtain ⟨a1, a2, a3⟩ := hw
    obtain ⟨t1, t2, t3⟩ := ht
    by_cases hi : i ≤ 100
    · rw [cond_t (by simpa using hi)]
      rw [cond_f ?_]
      · have hm := Int.emod_nonneg i (b := (by'.length : Int)) (by omega)
        have hm2 := Int.emod_lt_of_pos i (b := (by'.length : Int)) (by omega)
        simp only [tmod_eq h0]
        rw [grd_pos ⟨by omega, hm, hm2⟩]
        obtain ⟨v, hv, v1, v2⟩ := inner_ok (s := wear) (by omega) (by omega) (by omega) (.inl (by omega)) (hby (Int.toNat (i % by'.length)))
        have e1 : (i + 1) * wear.hi = i * wear.hi + wear.hi := by rw [Int.add_mul, Int.one_mul]
        have e2 : (i + 1) * wear.lo = i * wear.lo + wear.lo := by rw [Int.add_mul, Int.one_mul]
        have c1 : i * wear.hi ≤ 100 * wear.hi := Int.mul_le_mul_of_nonneg_right hi (by omega)
        have c2 : 0 ≤ i * wear.lo := Int.mul_nonneg h0 a1
        rw [bind_ok hv, grd_pos ⟨by omega, by omega⟩, grd_pos ⟨by omega, by omega⟩]
        exact ih _ _ (by omega) (by omega) (by omega) (by omega) (by omega)
      · refine Bool.eq_false_iff.2 fun h => ?_
        simp only [Bool.or_eq_true, Bool.and_eq_true, decide_eq_true_eq, beq_iff_eq] at h
        rcases h with ⟨h, hlt⟩ | ⟨⟨h, h'⟩, hge⟩
        · by_cases hz : N = -1
          · have := n0 hz
            rw [this] at hlo; omega
          · have := nm (by omega)
            have := Int.mul_le_mul_of_nonneg_right (show i ≤ N by omega) (show 0 ≤ wear.hi by omega)
            omega
        · have := mm h
          have := Int.mul_le_mul_of_nonneg_right (show M + 1 ≤ i by omega) (show 0 ≤ wear.lo by omega)
          omega
    · rw [cond_f (by simpa using hi)]

theorem lasts_true (thick wear : MSpan) (least : Int) (by' : List Int) (hby : ∀ j, 0 ≤ by'.getD j default ∧ by'.getD j default ≤ 4294967295) (hlen : by'.length ≤ 4611686018427387904) : wormtublaw04_StillLasts FU thick wear least by' = some true := by
  unfold wormtublaw04_StillLasts
  rw [bind_ok (wear_eq _ _ _)]
  by_cases h1 : ¬ (Okay 0 1073741824 thick ∧ Okay 0 1073741824 wear)
  · rw [if_pos h1]; simp [alive_true]
  rw [if_neg h1]
  by_cases h2 : least < 0 ∨ 1073741824 < least
  · rw [if_pos h2]; simp [alive_true]
  rw [if_neg h2]
  by_cases h3 : thick.lo < least
  · rw [if_pos h3]; simp [alive_true, h3]
  rw [if_neg h3]
  obtain ⟨⟨t1, t2, t3⟩, a1, a2, a3⟩ := Decidable.not_not.1 h1
  have hl : 0 ≤ least ∧ least ≤ thick.lo := by omega
  dsimp only
  rw [cond_f (b := ((0 : Int) != 0)) rfl]
  -- what is known of the two numbers
  have n1 : -1 ≤ rn (thick.lo - least) wear.hi ∧ rn (thick.lo - least) wear.hi ≤ 1073741824 ∧ (rn (thick.lo - least) wear.hi = -1 → wear.hi = 0) ∧ (0 ≤ rn (thick.lo - least) wear.hi → 0 < wear.hi ∧ rn (thick.lo - least) wear.hi * wear.hi ≤ thick.lo - least ∧ thick.lo - least < (rn (thick.lo - least) wear.hi + 1) * wear.hi) := by
    unfold rn
    by_cases hz : wear.hi = 0
    · rw [if_pos hz]; omega
    · have hd := div_in (a := thick.lo - least) (b := wear.hi) (by omega) (by omega)
      have hq := div_mul (a := thick.lo - least) (b := wear.hi) (by omega)
      rw [if_neg hz]
      exact ⟨by omega, by omega, by omega, fun _ => ⟨by omega, hq⟩⟩
  have n2 : -1 ≤ rn (thick.hi - least) wear.lo ∧ rn (thick.hi - least) wear.lo ≤ 1073741824 ∧ (rn (thick.hi - least) wear.lo = -1 → wear.lo = 0) ∧ (0 ≤ rn (thick.hi - least) wear.lo → 0 < wear.lo ∧ rn (thick.hi - least) wear.lo * wear.lo ≤ thick.hi - least ∧ thick.hi - least < (rn (thick.hi - least) wear.lo + 1) * wear.lo ∧ rn (thick.lo - least) wear.hi ≤ rn (thick.hi - least) wear.lo) := by
    unfold rn
    by_cases hz : wear.lo = 0
    · rw [if_pos hz]; omega
    · have hd := div_in (a := thick.hi - least) (b := wear.lo) (by omega) (by omega)
      have hq := div_mul (a := thick.hi - least) (b := wear.lo) (by omega)
      rw [if_neg hz, if_neg (show ¬ wear.hi = 0 by omega)]
      refine ⟨by omega, by omega, by omega, fun _ => ⟨by omega, hq.1, hq.2, ?_⟩⟩
      have hd1 := div_in (a := thick.lo - least) (b := wear.hi) (by omega) (by omega)
      have hq1 := div_mul (a := thick.lo - least) (b := wear.hi) (by omega)
      have := Int.mul_le_mul_of_nonneg_left a2 hd1.1
      refine Int.le_ediv_of_mul_le (by omega) ?_
      omega
  generalize rn (thick.lo - least) wear.hi = N at *
  generalize rn (thick.hi - least) wear.lo = M at *
  have e1 : (N + 1) * wear.hi = N * wear.hi + wear.hi := by rw [Int.add_mul, Int.one_mul]
  have e2 : (M + 1) * wear.lo = M * wear.lo + wear.lo := by rw [Int.add_mul, Int.one_mul]
  rw [cond_f ?_]
  · rw [grd_pos ?_]
    · rw [cond_f ?_]
      · by_cases hz : by'.length = 0
        · rw [cond_t (by simp [hz]), bind_ok alive_true]
        · rw [cond_f (by simpa using hz), grd_pos ⟨by omega, by omega⟩]
          obtain ⟨v, hv, v1, v2⟩ := inner_ok (s := thick) (by omega) (by omega) (by omega) (.inl (by omega)) (hby (Int.toNat 0))
          rw [bind_ok hv, bind_ok (lasts_loop (thick := thick) ⟨a1, a2, a3⟩ ⟨t1, t2, t3⟩ hl n1.2.2.1 (fun h => (n1.2.2.2 h).2.1) (fun h => (n2.2.2.2 h).2.2.1) n1.1 hby (by omega) FU v 0 (by omega) (by omega) (by decide) (by omega) (by omega))]
          show wormtublaw04_StillLasts_k1 FU () = _
          rw [wormtublaw04_StillLasts_k1, bind_ok alive_true]
      · refine Bool.eq_false_iff.2 fun h => ?_
        simp only [Bool.or_eq_true, Bool.and_eq_true, decide_eq_true_eq] at h
        rcases h with ⟨h, h'⟩ | ⟨h, h'⟩
        · have := n1.2.2.2 h; omega
        · have := n2.2.2.2 h; omega
    · simp only [Bool.or_eq_true, Bool.and_eq_true, decide_eq_true_eq, Bool.not_eq_true', decide_eq_false_iff_not]
      have f1 : 0 ≤ N → 0 ≤ N * wear.hi ∧ N * wear.hi ≤ thick.lo - least := fun h => ⟨Int.mul_nonneg h (by omega), (n1.2.2.2 h).2.1⟩
      have f2 : 0 ≤ M → 0 ≤ M * wear.lo ∧ M * wear.lo ≤ thick.hi - least := fun h => ⟨Int.mul_nonneg h (by omega), (n2.2.2.2 h).2.1⟩
      and_intros <;> intro h <;> (try have g1 := f1 (by omega)) <;> (try have g2 := f2 (by omega)) <;> omega
  · refine Bool.eq_false_iff.2 fun h => ?_
    simp only [Bool.or_eq_true, Bool.and_eq_true, decide_eq_true_eq, beq_iff_eq, bne_iff_ne] at h
    omega
end Go.Proofs.Ytnfahoomoelmcaa
