/- The two lines through a curve: within each part, from part to part; as both sides reckon them. -/
import Derived.Test.YtnfahoomoelmcaaMaCurve
namespace Go.Proofs.Ytnfahoomoelmcaa
open Go.RowKit Go.Proofs.Try

/-- a value between two knots, times their distance -/
def nu (c : MCurve) (A : Nat → Int) (i : Nat) (x : Int) : Int := A i * ((c.liquid.getD (i + 1) default) - (c.liquid.getD i default)) + (A (i + 1) - A i) * (x - (c.liquid.getD i default))
def fl (c : MCurve) (A : Nat → Int) (i : Nat) (x : Int) : Int := nu c A i x / ((c.liquid.getD (i + 1) default) - (c.liquid.getD i default))
def ce (c : MCurve) (A : Nat → Int) (i : Nat) (x : Int) : Int := (nu c A i x + ((c.liquid.getD (i + 1) default) - (c.liquid.getD i default)) - 1) / ((c.liquid.getD (i + 1) default) - (c.liquid.getD i default))
def Seg (c : MCurve) (i : Nat) (x : Int) : Prop := i + 1 < c.liquid.length ∧ (c.liquid.getD i default) ≤ x ∧ x ≤ (c.liquid.getD (i + 1) default)
theorem Valid.step {c : MCurve} (h : Valid c) {i : Nat} (hi : i + 1 < c.liquid.length) : (c.liquid.getD i default) < (c.liquid.getD (i + 1) default) ∧ ((c.vapour.getD i default)).lo ≤ ((c.vapour.getD (i + 1) default)).lo ∧ ((c.vapour.getD i default)).hi ≤ ((c.vapour.getD (i + 1) default)).hi := by
  have := (h.rows (i + 1) hi).2.2 (by omega)
  simpa using this
theorem Valid.lt {c : MCurve} (h : Valid c) {i : Nat} : ∀ {j : Nat}, i < j → j < c.liquid.length → (c.liquid.getD i default) < (c.liquid.getD j default)
  | 0, hij, _ => by omega
  | j + 1, hij, hj => by
    have h1 := (h.step (i := j) hj).1
    by_cases e : i = j
    · subst e; exact h1
    · exact Int.lt_trans (h.lt (j := j) (by omega) (by omega)) h1
theorem Valid.ends {c : MCurve} (h : Valid c) {i : Nat} (hi : i < c.liquid.length) : 0 ≤ (c.liquid.getD i default) ∧ (c.liquid.getD i default) ≤ 10000 := by
  refine ⟨liquid_pos h.first h.rows i hi, ?_⟩
  by_cases e : i = c.liquid.length - 1
  · rw [e, h.last]; omega
  · have := h.lt (i := i) (j := c.liquid.length - 1) (by omega) (by omega)
    have := h.last
    omega
/-- knots that rise, within limits -/
structure Rises (c : MCurve) (A : Nat → Int) : Prop where
  up : ∀ i, i + 1 < c.liquid.length → A i ≤ A (i + 1)
  low : ∀ i, i < c.liquid.length → (c.liquid.getD i default) ≤ A i
  most : ∀ i, i < c.liquid.length → A i ≤ 10000
  pos : ∀ i, i < c.liquid.length → 0 ≤ A i
theorem Valid.los {c : MCurve} (h : Valid c) : Rises c fun i => ((c.vapour.getD i default)).lo :=
  ⟨fun _ hi => (h.step hi).2.1, fun i hi => (h.rows i hi).2.1, fun i hi => by have := (h.rows i hi).1; omega, fun i hi => (h.rows i hi).1.1⟩
theorem Valid.his {c : MCurve} (h : Valid c) : Rises c fun i => ((c.vapour.getD i default)).hi :=
  ⟨fun _ hi => (h.step hi).2.2, fun i hi => by have := (h.rows i hi).1; have := (h.rows i hi).2.1; omega, fun i hi => (h.rows i hi).1.2.2, fun i hi => by have := (h.rows i hi).1; omega⟩
theorem Rises.le {c : MCurve} {A : Nat → Int} (h : Rises c A) {i : Nat} : ∀ {j : Nat}, i ≤ j → j < c.liquid.length → A i ≤ A j
  | 0, hij, _ => by have : i = 0 := by omega
                    subst this; omega
  | j + 1, hij, hj => by
    by_cases e : i = j + 1
    · subst e; omega
    · exact Int.le_trans (h.le (j := j) (by omega) (by omega)) (h.up j hj)
theorem nu_eq (c : MCurve) (A : Nat → Int) (i : Nat) (x : Int) : nu c A i x = A i * ((c.liquid.getD (i + 1) default) - x) + A (i + 1) * (x - (c.liquid.getD i default)) := by
  unfold nu
  simp only [Int.mul_sub, Int.sub_mul]
  omega
theorem nu_mono {c : MCurve} {A : Nat → Int} (h : Rises c A) {i : Nat} (hi : i + 1 < c.liquid.length) {x y : Int} (hxy : x ≤ y) : nu c A i x ≤ nu c A i y := by
  unfold nu
  have := Int.mul_le_mul_of_nonneg_left (show x - (c.liquid.getD i default) ≤ y - (c.liquid.getD i default) by omega) (show 0 ≤ A (i + 1) - A i by have := h.up i hi; omega)
  omega
theorem nu_left (c : MCurve) (A : Nat → Int) (i : Nat) : nu c A i ((c.liquid.getD i default)) = A i * ((c.liquid.getD (i + 1) default) - (c.liquid.getD i default)) := by
  unfold nu; rw [Int.sub_self, Int.mul_zero, Int.add_zero]
theorem nu_right (c : MCurve) (A : Nat → Int) (i : Nat) : nu c A i ((c.liquid.getD (i + 1) default)) = A (i + 1) * ((c.liquid.getD (i + 1) default) - (c.liquid.getD i default)) := by
  unfold nu; rw [Int.sub_mul]; omega
theorem nu_le {c : MCurve} {A B : Nat → Int} {i : Nat} {x : Int} (hs : Seg c i x) (h1 : A i ≤ B i) (h2 : A (i + 1) ≤ B (i + 1)) : nu c A i x ≤ nu c B i x := by
  obtain ⟨_, a, b⟩ := hs
  rw [nu_eq, nu_eq]
  have := Int.mul_le_mul_of_nonneg_right h1 (show 0 ≤ (c.liquid.getD (i + 1) default) - x by omega)
  have := Int.mul_le_mul_of_nonneg_right h2 (show 0 ≤ x - (c.liquid.getD i default) by omega)
  omega
theorem nu_id (c : MCurve) (i : Nat) (x : Int) : nu c (fun i => c.liquid.getD i default) i x = x * (c.liquid.getD (i + 1) default - c.liquid.getD i default) := by
  rw [nu_eq, Int.mul_sub, Int.mul_sub, Int.mul_sub, Int.mul_comm (c.liquid.getD (i + 1) default) (c.liquid.getD i default), Int.mul_comm x (c.liquid.getD i default), Int.mul_comm x (c.liquid.getD (i + 1) default)]
  omega
theorem ceil_mul {a w : Int} (hw : 0 < w) : (a * w + w - 1) / w = a := by
  have : a * w + w - 1 = (w - 1) + a * w := by omega
  rw [this, Int.add_mul_ediv_right _ _ (by omega), Int.ediv_eq_zero_of_lt (by omega) (by omega)]
  omega
theorem fl_le_ce {c : MCurve} {A B : Nat → Int} {i : Nat} {x : Int} (h : Valid c) (hs : Seg c i x) (h1 : A i ≤ B i) (h2 : A (i + 1) ≤ B (i + 1)) : fl c A i x ≤ ce c B i x := by
  have hw := (h.step hs.1).1
  have := nu_le hs h1 h2
  exact Int.ediv_le_ediv (by omega) (by omega)
theorem fl_ends {c : MCurve} {A : Nat → Int} {i : Nat} {x : Int} (h : Valid c) (hA : Rises c A) (hs : Seg c i x) : A i ≤ fl c A i x ∧ fl c A i x ≤ A (i + 1) ∧ x ≤ fl c A i x := by
  have hw := (h.step hs.1).1
  have h1 := nu_mono hA hs.1 hs.2.1
  have h2 := nu_mono hA hs.1 hs.2.2
  have h3 := nu_le (A := fun i => c.liquid.getD i default) (B := A) hs (hA.low i (by have := hs.1; omega)) (hA.low (i + 1) hs.1)
  rw [nu_left] at h1
  rw [nu_right] at h2
  rw [nu_id] at h3
  refine ⟨Int.le_ediv_of_mul_le (by omega) h1, ?_, Int.le_ediv_of_mul_le (by omega) h3⟩
  have := Int.ediv_le_ediv (c := (c.liquid.getD (i + 1) default) - (c.liquid.getD i default)) (by omega) h2
  rw [Int.mul_ediv_cancel _ (by omega)] at this
  exact this
theorem ce_ends {c : MCurve} {A : Nat → Int} {i : Nat} {x : Int} (h : Valid c) (hA : Rises c A) (hs : Seg c i x) : A i ≤ ce c A i x ∧ ce c A i x ≤ A (i + 1) ∧ x ≤ ce c A i x := by
  have hw := (h.step hs.1).1
  have h1 := fl_ends h hA hs
  have h2 := fl_le_ce (A := A) (B := A) h hs (Int.le_refl _) (Int.le_refl _)
  refine ⟨by omega, ?_, by omega⟩
  have h2 := nu_mono hA hs.1 hs.2.2
  rw [nu_right] at h2
  have := Int.ediv_le_ediv (c := (c.liquid.getD (i + 1) default) - (c.liquid.getD i default)) (by omega) (show nu c A i x + ((c.liquid.getD (i + 1) default) - (c.liquid.getD i default)) - 1 ≤ A (i + 1) * ((c.liquid.getD (i + 1) default) - (c.liquid.getD i default)) + ((c.liquid.getD (i + 1) default) - (c.liquid.getD i default)) - 1 by omega)
  rw [ceil_mul (by omega)] at this
  exact this
/-- where two parts meet -/
theorem seg_next {c : MCurve} {i j : Nat} {x : Int} (h : Valid c) (hi : Seg c i x) (hj : Seg c j x) (hij : i < j) : j = i + 1 ∧ x = (c.liquid.getD (i + 1) default) := by
  obtain ⟨a1, a2, a3⟩ := hi
  obtain ⟨b1, b2, b3⟩ := hj
  by_cases e : j = i + 1
  · subst e; exact ⟨rfl, by omega⟩
  · have := h.lt (i := i + 1) (j := j) (by omega) (by omega)
    omega
theorem fl_meet {c : MCurve} {A : Nat → Int} {i : Nat} (h : Valid c) (hi : i + 2 < c.liquid.length) : fl c A i ((c.liquid.getD (i + 1) default)) = fl c A (i + 1) ((c.liquid.getD (i + 1) default)) := by
  have h1 := (h.step (i := i) (by omega)).1
  have h2 := (h.step (i := i + 1) hi).1
  unfold fl
  rw [nu_right, nu_left, Int.mul_ediv_cancel _ (by omega), Int.mul_ediv_cancel _ (by omega)]
theorem ce_meet {c : MCurve} {A : Nat → Int} {i : Nat} (h : Valid c) (hi : i + 2 < c.liquid.length) : ce c A i ((c.liquid.getD (i + 1) default)) = ce c A (i + 1) ((c.liquid.getD (i + 1) default)) := by
  have h1 := (h.step (i := i) (by omega)).1
  have h2 := (h.step (i := i + 1) hi).1
  unfold ce
  rw [nu_right, nu_left, ceil_mul (by omega), ceil_mul (by omega)]
theorem fl_same {c : MCurve} {A : Nat → Int} {i j : Nat} {x : Int} (h : Valid c) (hi : Seg c i x) (hj : Seg c j x) : fl c A i x = fl c A j x := by
  rcases Nat.lt_trichotomy i j with hij | hij | hij
  · obtain ⟨rfl, rfl⟩ := seg_next h hi hj hij
    exact fl_meet h hj.1
  · rw [hij]
  · obtain ⟨rfl, rfl⟩ := seg_next h hj hi hij
    exact (fl_meet h hi.1).symm
theorem ce_same {c : MCurve} {A : Nat → Int} {i j : Nat} {x : Int} (h : Valid c) (hi : Seg c i x) (hj : Seg c j x) : ce c A i x = ce c A j x := by
  rcases Nat.lt_trichotomy i j with hij | hij | hij
  · obtain ⟨rfl, rfl⟩ := seg_next h hi hj hij
    exact ce_meet h hj.1
  · rw [hij]
  · obtain ⟨rfl, rfl⟩ := seg_next h hj hi hij
    exact (ce_meet h hi.1).symm
theorem fl_mono {c : MCurve} {A : Nat → Int} {i j : Nat} {x y : Int} (h : Valid c) (hA : Rises c A) (hi : Seg c i x) (hj : Seg c j y) (hxy : x ≤ y) : fl c A i x ≤ fl c A j y := by
  rcases Nat.lt_trichotomy i j with hij | hij | hij
  · have := (fl_ends h hA hi).2.1
    have := (fl_ends h hA hj).1
    have := hA.le (i := i + 1) (j := j) (by omega) (by have := hj.1; omega)
    omega
  · subst hij
    exact Int.ediv_le_ediv (by have := (h.step hi.1).1; omega) (nu_mono hA hi.1 hxy)
  · have e : x = y := by
      have h1 := hi.2.1
      have h2 := hj.2.2
      by_cases e : j + 1 = i
      · subst e; omega
      · have := h.lt (i := j + 1) (j := i) (by omega) (by have := hi.1; omega)
        omega
    subst e
    rw [fl_same h hi hj]
    omega
theorem ce_mono {c : MCurve} {A : Nat → Int} {i j : Nat} {x y : Int} (h : Valid c) (hA : Rises c A) (hi : Seg c i x) (hj : Seg c j y) (hxy : x ≤ y) : ce c A i x ≤ ce c A j y := by
  rcases Nat.lt_trichotomy i j with hij | hij | hij
  · have := (ce_ends h hA hi).2.1
    have := (ce_ends h hA hj).1
    have := hA.le (i := i + 1) (j := j) (by omega) (by have := hj.1; omega)
    omega
  · subst hij
    have := nu_mono hA hi.1 hxy
    exact Int.ediv_le_ediv (by have := (h.step hi.1).1; omega) (by omega)
  · have e : x = y := by
      have h1 := hi.2.1
      have h2 := hj.2.2
      by_cases e : j + 1 = i
      · subst e; omega
      · have := h.lt (i := j + 1) (j := i) (by omega) (by have := hi.1; omega)
        omega
    subst e
    rw [ce_same h hi hj]
    omega
end Go.Proofs.Ytnfahoomoelmcaa
