/- StillColumn: its model is true. -/
import Derived.Test.YtnfahoomoelmcaaSyL2
import Derived.Test.YtnfahoomoelmcaaMaPlates
namespace Go.Proofs.Ytnfahoomoelmcaa
open Go.RowKit Go.Proofs.Try

theorem Vapour_ok {c : MCurve} {s : MSpan} (h : Valid c) (hl : c.liquid.length ≤ 140737488355328) (hs : Okay 0 10000 s) : still_Vapour FU c s = some (MSpan.mk (lowV c s.lo) (highV c s.hi), 0) := by
  unfold still_Vapour
  rw [bind_ok ((validCurve_eq c hl FU fu40).1 h)]
  simp only [strengths_eq, covers_eq, Option.bind_some, Bool.not_true, cond_false, hs, decide_true, Bool.not_false, cond_true, Bool.or_self]
  obtain ⟨a, b, d⟩ := hs
  rw [bind_ok (vapour_eq h (by omega) (by omega))]
theorem First.ge {c : MCurve} {V : Int → Int} (hV : ∀ x, 0 ≤ x ∧ x ≤ 10000 → x ≤ V x ∧ V x ≤ 10000) {s t r : Int} (hs : 0 ≤ s ∧ s ≤ 10000) (h : First (itV V s) t r) {n : Nat} (hn : n ≤ 100) : (0 ≤ r ∧ r ≤ n) ↔ t ≤ itV V s n := by
  rcases h with ⟨h1, h2⟩ | ⟨m, h1, h2, h3, h4⟩
  · have := h2 n hn
    exact ⟨fun h => by omega, fun h => by omega⟩
  · by_cases e : m ≤ n
    · have := it_up hV hs e
      exact ⟨fun h => by omega, fun h => by omega⟩
    · have := h4 n (by omega)
      exact ⟨fun h => by omega, fun h => by omega⟩
theorem First.low {it : Nat → Int} {t r : Int} (h : First it t r) : -1 ≤ r := by
  rcases h with ⟨h1, h2⟩ | ⟨m, h1, h2, h3, h4⟩ <;> omega
theorem First.less {it it' : Nat → Int} {t r r' : Int} (h : First it t r) (h' : First it' t r') (hi : ∀ n, it n ≤ it' n) : 0 ≤ r → 0 ≤ r' ∧ r' ≤ r := fun h0 => by
  rcases h with ⟨h1, h2⟩ | ⟨m, h1, h2, h3, h4⟩
  · omega
  · have := hi m
    rcases h' with ⟨k1, k2⟩ | ⟨l, k1, k2, k3, k4⟩
    · have := k2 m h1; omega
    · by_cases e : l ≤ m
      · omega
      · have := k4 m (by omega); omega
theorem it_le_it {c : MCurve} (h : Valid c) {s : Int} (hs : 0 ≤ s ∧ s ≤ 10000) : ∀ n, itV (lowV c) s n ≤ itV (highV c) s n
  | 0 => show s ≤ s by omega
  | n + 1 => by
    have h1 := it_in (lows h) hs n
    have h2 := it_in (highs h) hs n
    have h3 := it_le_it h hs n
    show lowV c _ ≤ highV c _
    have := (low_in h h1).2.1
    have := (low_mono h h1.1 h3 h2.2).2
    omega
theorem it_from {c : MCurve} (h : Valid c) {s s' : Int} (hs : 0 ≤ s) (hss : s ≤ s') (hs' : s' ≤ 10000) : ∀ n, itV (lowV c) s n ≤ itV (lowV c) s' n ∧ itV (highV c) s n ≤ itV (highV c) s' n
  | 0 => ⟨hss, hss⟩
  | n + 1 => by
    have h1 := it_in (lows h) (s := s) ⟨hs, by omega⟩ n
    have h2 := it_in (highs h) (s := s) ⟨hs, by omega⟩ n
    have h3 := it_in (lows h) (s := s') ⟨by omega, hs'⟩ n
    have h4 := it_in (highs h) (s := s') ⟨by omega, hs'⟩ n
    have h5 := it_from h hs hss hs' n
    exact ⟨(low_mono h h1.1 h5.1 h3.2).1, (low_mono h h2.1 h5.2 h4.2).2⟩
theorem column_loop {c : MCurve} (h : Valid c) (hl : c.liquid.length ≤ 140737488355328) {f t p s : Int} {r3 : Int × Int × Int} {by' : List Int} (hf : 0 ≤ f ∧ f ≤ 10000) (hp : First (itV (highV c) f) t p) (hs : First (itV (lowV c) f) t s) (hr : r3 = platesOf p s) (hby : ∀ j, 0 ≤ by'.getD j default ∧ by'.getD j default ≤ 4294967295) (hlen : 0 < by'.length) :
    ∀ (n i : Nat) (now : Int), i ≤ 101 → 103 ≤ n + i → itV (lowV c) f i ≤ now → now ≤ itV (highV c) f i → wormtublaw04_StillColumn_l1 FU c t by' r3 n (itV (lowV c) f i, itV (highV c) f i, now, (i : Int)) = some (Lp.done ()) := by
  intro n
  induction n with
  | zero => intro i now _ h; omega
  | succ n ih =>
    intro i now h1 h2 k1 k2
    rw [wormtublaw04_StillColumn_l1]
    by_cases hi : i ≤ 100
    · have gp := First.ge (c := c) (highs h) hf hp hi
      have gs := First.ge (c := c) (lows h) hf hs hi
      have il := it_in (lows h) hf i
      have ih' := it_in (highs h) hf i
      have hpl := hp.low
      rw [cond_t (by simp; omega), cond_f ?_, cond_f ?_]
      · have v1 := Vapour_ok h hl (s := MSpan.mk (itV (lowV c) f i) (itV (lowV c) f i)) ((point _).2 il)
        have v2 := Vapour_ok h hl (s := MSpan.mk (itV (highV c) f i) (itV (highV c) f i)) ((point _).2 ih')
        have v3 := Vapour_ok h hl (s := MSpan.mk now now) ((point _).2 ⟨by omega, by omega⟩)
        have ln := low_in h (x := now) ⟨by omega, by omega⟩
        have m1 := (low_mono h il.1 k1 (by omega)).1
        have m2 := (low_mono h (x := now) (by omega) k2 ih'.2).2
        have m0 := Int.emod_nonneg (i : Int) (b := (by'.length : Int)) (by omega)
        have m9 := Int.emod_lt_of_pos (i : Int) (b := (by'.length : Int)) (by omega)
        obtain ⟨v, hv, w1, w2⟩ := inner_ok (s := MSpan.mk (lowV c now) (highV c now)) (b := by'.getD (Int.toNat ((i : Int) % by'.length)) default) (by dsimp only; omega) (by dsimp only; omega) (by dsimp only; omega) (.inl (by dsimp only; omega)) (hby _)
        refine (bind_ok v1 _).trans ((bind_ok v2 _).trans ((bind_ok v3 _).trans ?_))
        refine (cond_f (show (((0 : Int) != 0) || ((0 : Int) != 0) || ((0 : Int) != 0)) = false from rfl) _ _).trans ?_
        refine (grd_pos ?_ _).trans ?_
        · dsimp only
          rw [tmod_eq (show (0 : Int) ≤ i by omega)]
          exact ⟨by omega, m0, m9⟩
        · have e : ((i : Int)).tmod (by'.length : Int) = (i : Int) % by'.length := tmod_eq (by omega)
          dsimp only
          rw [e]
          refine (bind_ok hv _).trans ((grd_pos (by omega) _).trans ?_)
          rw [show ((i : Int) + 1) = ((i + 1 : Nat) : Int) by omega]
          refine ih (i + 1) v (by omega) (by omega) ?_ ?_
          · show lowV c _ ≤ v
            dsimp only at w1
            omega
          · show v ≤ highV c _
            dsimp only at w2
            omega
      · refine Bool.eq_false_iff.2 fun hh => ?_
        subst hr
        unfold platesOf at hh
        by_cases e : p = -1
        · rw [if_pos e] at hh
          simp only [Bool.or_eq_true, Bool.and_eq_true, decide_eq_true_eq, beq_iff_eq] at hh
          omega
        · rw [if_neg e] at hh
          simp only [Bool.or_eq_true, Bool.and_eq_true, decide_eq_true_eq, beq_iff_eq] at hh
          omega
      · refine Bool.eq_false_iff.2 fun hh => ?_
        subst hr
        unfold platesOf at hh
        by_cases e : p = -1
        · rw [if_pos e] at hh
          simp only [Bool.or_eq_true, Bool.and_eq_true, decide_eq_true_eq, beq_iff_eq, bne_iff_ne, Bool.not_eq_true', beq_eq_false_iff_ne, ne_eq] at hh
          omega
        · have d1 : decide (p ≤ (i : Int)) = decide (t ≤ itV (highV c) f i) := decide_eq_decide.2 ⟨fun h => gp.1 ⟨by omega, h⟩, fun h => (gp.2 h).2⟩
          have d2 : (decide (0 ≤ s) && decide (s ≤ (i : Int))) = decide (t ≤ itV (lowV c) f i) := by rw [← Bool.decide_and]; exact decide_eq_decide.2 gs
          rw [if_neg e] at hh
          dsimp only at hh
          rw [d1, d2] at hh
          generalize decide (t ≤ itV (highV c) f i) = b1 at hh
          generalize decide (t ≤ itV (lowV c) f i) = b2 at hh
          cases b1 <;> cases b2 <;> exact absurd hh (by decide)
    · rw [cond_f (by simp; omega)]
theorem column_true (c : MCurve) (f t more : Int) (by' : List Int) (hl : c.liquid.length ≤ 140737488355328) (hby : ∀ j, 0 ≤ by'.getD j default ∧ by'.getD j default ≤ 4294967295) : wormtublaw04_StillColumn FU c f t more by' = some true := by
  unfold wormtublaw04_StillColumn wormtublaw04_long
  rw [Option.bind_some]
  generalize (decide (40 < (c.liquid.length : Int)) || decide (40 < (c.vapour.length : Int)) || decide (70 < (([] : List Int).length : Int))) = g
  by_cases h0 : g = true ∨ by'.length = 0
  · rw [cond_t (by simpa using h0), bind_ok alive_true]
  rw [cond_f (by refine Bool.eq_false_iff.2 fun h => h0 ?_; simpa using h)]
  by_cases h : Valid c
  case neg =>
    rw [bind_ok (plates_bad h hl).1]
    simp [alive_true]
  by_cases hr : (0 ≤ f ∧ f ≤ 10000) ∧ 0 ≤ t ∧ t ≤ 10000
  case neg =>
    rw [bind_ok (plates_range h hl hr).1]
    simp [alive_true]
  obtain ⟨p, s, hp, hs, e⟩ := plates_good h hl hr.1 hr.2
  rw [bind_ok e]
  have hz : ((platesOf p s).2.2 != 0 && (platesOf p s).2.2 != 12) = false := by
    unfold platesOf
    by_cases e : p = -1
    · rw [if_pos e]; rfl
    · rw [if_neg e]; rfl
  rw [cond_f hz]
  have hloop := column_loop h hl hr.1 hp hs rfl hby (by omega) FU 0 f (by omega) (by decide) (Int.le_refl _) (Int.le_refl _)
  rw [show wormtublaw04_StillColumn_l1 FU c t by' (platesOf p s) FU (f, f, f, 0) = _ from hloop]
  show wormtublaw04_StillColumn_k1 FU c f t more (platesOf p s) () = _
  unfold wormtublaw04_StillColumn_k1
  by_cases hm : more < f ∨ 10000 < more
  · rw [cond_t (by simpa using hm), bind_ok alive_true]
  rw [cond_f (by simp; omega)]
  obtain ⟨q, u, hq, hu, e2⟩ := plates_good (f := more) h hl (by omega) hr.2
  rw [bind_ok e2]
  have i1 := it_from h hr.1.1 (show f ≤ more by omega) (by omega)
  have l1 := First.less hp hq fun n => (i1 n).2
  have l2 := First.less hs hu fun n => (i1 n).1
  have l3 := First.less hs hp (it_le_it h hr.1)
  have l4 := hp.low
  have l5 := hs.low
  unfold platesOf
  by_cases e : p = -1
  · rw [if_pos e]
    refine (cond_t (show ((12 : Int) != 0) = true from rfl) _ _).trans ?_
    by_cases e3 : q = -1
    · rw [if_pos e3]
      simp [alive_true]
    · rw [if_neg e3]
      simp [alive_true]
  · rw [if_neg e, if_neg (show ¬ q = -1 by omega)]
    refine (cond_f (show ((0 : Int) != 0) = false from rfl) _ _).trans ?_
    have key : (((((0 : Int) == 0) && decide (q ≤ p)) && (decide (s < 0) || (decide (0 ≤ u) && decide (u ≤ s)))) && (decide (s < 0) || decide (p ≤ s))) = true := by
      simp only [Bool.and_eq_true, Bool.or_eq_true, decide_eq_true_eq, beq_self_eq_true, true_and]
      omega
    dsimp only
    rw [key]
    simp [alive_true]
end Go.Proofs.Ytnfahoomoelmcaa
