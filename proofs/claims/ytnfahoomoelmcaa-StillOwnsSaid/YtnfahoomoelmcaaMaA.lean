/- What the walked functions of layer 4 say, in closed form. -/
import Derived.Test.YtnfahoomoelmcaaSyF3
namespace Go.Proofs.Ytnfahoomoelmcaa
open Go.RowKit Go.Proofs.Try

abbrev FU : Nat := 1099511627776
theorem alive_true : wormtublaw04_alive FU = some true := by kernel_rfl
theorem bind_ok {α β : Type} {x : Option α} {a : α} (h : x = some a) (f : α → Option β) : x.bind f = f a := by rw [h]; rfl
theorem cond_t {α : Type} {b : Bool} (h : b = true) (x y : α) : (bif b then x else y) = x := by rw [h]; rfl
theorem cond_f {α : Type} {b : Bool} (h : b = false) (x y : α) : (bif b then x else y) = y := by rw [h]; rfl
def Okay (lo hi : Int) (s : MSpan) : Prop := lo ≤ s.lo ∧ s.lo ≤ s.hi ∧ s.hi ≤ hi
instance (lo hi : Int) (s : MSpan) : Decidable (Okay lo hi s) := inferInstanceAs (Decidable (lo ≤ s.lo ∧ s.lo ≤ s.hi ∧ s.hi ≤ hi))
theorem okay_bool (lo hi : Int) (s : MSpan) : ((decide (lo ≤ s.lo) && decide (s.lo ≤ s.hi)) && decide (s.hi ≤ hi)) = decide (Okay lo hi s) := by
  show _ = decide (lo ≤ s.lo ∧ s.lo ≤ s.hi ∧ s.hi ≤ hi)
  simp [Bool.and_assoc]
/-- a quotient of what is not below 0 -/
theorem tdiv_eq {a b : Int} (ha : 0 ≤ a) : a.tdiv b = a / b := Int.tdiv_eq_ediv_of_nonneg ha
theorem tmod_eq {a b : Int} (ha : 0 ≤ a) : a.tmod b = a % b := Int.tmod_eq_emod_of_nonneg ha
theorem div_in {a b : Int} (ha : 0 ≤ a) (hb : 0 < b) : 0 ≤ a / b ∧ a / b ≤ a := ⟨Int.ediv_nonneg ha (by omega), Int.ediv_le_self b ha⟩
theorem div_mul {a b : Int} (hb : 0 < b) : a / b * b ≤ a ∧ a < (a / b + 1) * b := ⟨Int.ediv_mul_le a (by omega), Int.lt_ediv_add_one_mul_self a hb⟩
theorem covers_eq (s o : MSpan) : still_span_covers s o = some (decide (Okay s.lo s.hi o)) := by rw [still_span_covers, okay_bool]
theorem within_eq (s : MSpan) (lo hi : Int) : wormtubref04_Within s lo hi = some (decide (Okay lo hi s)) := by rw [wormtubref04_Within, okay_bool]
theorem in_eq (n lo hi : Int) : wormtubref04_in n lo hi = some (decide (lo ≤ n ∧ n ≤ hi)) := by rw [wormtubref04_in]; simp
/-- a number of a span -/
theorem inner_ok {s : MSpan} {b : Int} (h1 : -4611686018427387904 ≤ s.lo) (h2 : s.lo ≤ s.hi) (h3 : s.hi ≤ 4611686018427387903) (h5 : -2305843009213693952 ≤ s.lo ∨ s.hi ≤ 0) (hb : 0 ≤ b ∧ b ≤ 4294967295) : ∃ v, wormtublaw04_inner s b = some v ∧ s.lo ≤ v ∧ v ≤ s.hi := by
  have hm := Int.emod_nonneg b (b := s.hi - s.lo + 1) (by omega)
  have hm2 := Int.emod_lt_of_pos b (b := s.hi - s.lo + 1) (by omega)
  refine ⟨s.lo + b % (s.hi - s.lo + 1), ?_, by omega, by omega⟩
  rw [wormtublaw04_inner, tmod_eq hb.1]
  exact grd_pos ⟨by omega, by omega, by omega, by omega, by omega⟩ _
def rn (a e : Int) : Int := if e = 0 then -1 else a / e
theorem runs_eq {a e : Int} (ha : 0 ≤ a) (ha2 : a ≤ 9223372036854775807) (he : 0 ≤ e) : still_runs a e = some (rn a e) := by
  unfold still_runs rn
  by_cases h : e = 0
  · subst h; rfl
  · have hd := div_in ha (show 0 < e by omega)
    rw [cond_f (by simp [h]), if_neg h, still_down, tdiv_eq ha, grd_pos ⟨h, by omega⟩]
    rfl
/-- Wear -/
theorem wear_eq (thick wear : MSpan) (least : Int) : still_Wear thick wear least = some (if ¬ (Okay 0 1073741824 thick ∧ Okay 0 1073741824 wear) then (0, 0, 1) else if least < 0 ∨ 1073741824 < least then (0, 0, 2) else if thick.lo < least then (0, 0, 12) else (rn (thick.lo - least) wear.hi, rn (thick.hi - least) wear.lo, 0)) := by
  unfold still_Wear
  simp only [covers_eq, Option.bind_some]
  by_cases h1 : Okay 0 1073741824 thick
  · simp only [h1, decide_true, Bool.not_true, Bool.not_false, cond_true, Option.bind_some, Bool.false_or, true_and]
    by_cases h2 : Okay 0 1073741824 wear
    · simp only [h2, decide_true, Bool.not_true, cond_false, not_true_eq_false, if_false]
      by_cases h3 : least < 0 ∨ 1073741824 < least
      · rw [if_pos h3, cond_t (by simpa using h3)]
      · rw [if_neg h3, cond_f (by simp; omega)]
        by_cases h4 : thick.lo < least
        · rw [if_pos h4, cond_t (by simpa using h4)]
        · obtain ⟨a1, a2, a3⟩ := h1
          obtain ⟨b1, b2, b3⟩ := h2
          rw [if_neg h4, cond_f (by simpa using h4), grd_pos ⟨by omega, by omega⟩, bind_ok (runs_eq (by omega) (by omega) (by omega)), grd_pos ⟨by omega, by omega⟩, bind_ok (runs_eq (by omega) (by omega) (by omega))]
    · simp only [h2, decide_false, Bool.not_false, cond_true, not_false_eq_true, if_true]
  · simp only [h1, decide_false, Bool.not_false, Bool.not_true, cond_false, Option.bind_some, Bool.true_or, cond_true, false_and, not_false_eq_true, if_true]
end Go.Proofs.Ytnfahoomoelmcaa
