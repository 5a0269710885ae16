/- The document's line at any strength, a fraction; what it is between. -/
import Derived.Test.YtnfahoomoelmcaaMaFacts
namespace Go.Proofs.Ytnfahoomoelmcaa
open Go.RowKit Go.Proofs.Try

/-- a value between two knots, times their distance and the fraction's lower number -/
def nuF (c : MCurve) (A : Nat → Int) (k : Nat) (num den : Int) : Int := A k * (c.liquid.getD (k + 1) default - c.liquid.getD k default) * den + (A (k + 1) - A k) * (num - c.liquid.getD k default * den)
def SegF (c : MCurve) (k : Nat) (num den : Int) : Prop := k + 1 < c.liquid.length ∧ c.liquid.getD k default * den ≤ num ∧ num ≤ c.liquid.getD (k + 1) default * den
theorem nuF_int (c : MCurve) (A : Nat → Int) (k : Nat) (x den : Int) : nuF c A k (x * den) den = nu c A k x * den := by
  unfold nuF nu
  rw [← Int.sub_mul, Int.add_mul, Int.mul_assoc (A (k + 1) - A k)]
theorem nuF_mono {c : MCurve} {A : Nat → Int} (h : Rises c A) {k : Nat} (hk : k + 1 < c.liquid.length) {x y den : Int} (hxy : x ≤ y) : nuF c A k x den ≤ nuF c A k y den := by
  unfold nuF
  have := Int.mul_le_mul_of_nonneg_left (show x - c.liquid.getD k default * den ≤ y - c.liquid.getD k default * den by omega) (show 0 ≤ A (k + 1) - A k by have := h.up k hk; omega)
  omega
theorem nuF_left (c : MCurve) (A : Nat → Int) (k : Nat) (den : Int) : nuF c A k (c.liquid.getD k default * den) den = A k * (c.liquid.getD (k + 1) default - c.liquid.getD k default) * den := by
  rw [nuF_int, nu_left]
theorem nuF_right (c : MCurve) (A : Nat → Int) (k : Nat) (den : Int) : nuF c A k (c.liquid.getD (k + 1) default * den) den = A (k + 1) * (c.liquid.getD (k + 1) default - c.liquid.getD k default) * den := by
  rw [nuF_int, nu_right]
/-- vapour is not weaker than its liquid -/
theorem nuF_strong {c : MCurve} {A : Nat → Int} (h : Valid c) (hA : Rises c A) {k : Nat} {num den : Int} (hs : SegF c k num den) (hd : 0 < den) : num * (c.liquid.getD (k + 1) default - c.liquid.getD k default) ≤ nuF c A k num den := by
  obtain ⟨hk, h1, h2⟩ := hs
  have hw := (h.step hk).1
  have a0 := hA.low k (by omega)
  have a1 := hA.low (k + 1) hk
  unfold nuF
  generalize c.liquid.getD (k + 1) default = L1 at *
  generalize c.liquid.getD k default = L0 at *
  generalize A (k + 1) = A1 at *
  generalize A k = A0 at *
  -- A0 (L1 den - num) + A1 (num - L0 den) and the same with L
  have e1 := Int.mul_le_mul_of_nonneg_right a0 (show 0 ≤ L1 * den - num by omega)
  have e2 := Int.mul_le_mul_of_nonneg_right a1 (show 0 ≤ num - L0 * den by omega)
  simp only [Int.mul_sub, Int.sub_mul, ← Int.mul_assoc] at e1 e2 ⊢
  rw [Int.mul_comm L1 L0] at e2
  rw [Int.mul_comm num L1, Int.mul_comm num L0]
  omega
/-- a strength above it has no weaker vapour at most -/
theorem high_frac {c : MCurve} (h : Valid c) {k : Nat} {num den y : Int} (hs : SegF c k num den) (hd : 0 < den) (hy : 0 ≤ y ∧ y ≤ 10000) (hny : num ≤ y * den) : nuF c (fun i => (c.vapour.getD i default).hi) k num den ≤ highV c y * ((c.liquid.getD (k + 1) default - c.liquid.getD k default) * den) := by
  obtain ⟨hk, h1, h2⟩ := hs
  have hw := (h.step hk).1
  obtain ⟨_, _, ⟨j, hj⟩, hv⟩ := lines_ok h hy
  have yk : c.liquid.getD k default ≤ y := Int.le_of_mul_le_mul_right (Int.le_trans h1 hny) hd
  by_cases hy1 : y ≤ c.liquid.getD (k + 1) default
  · have hsk : Seg c k y := ⟨hk, yk, hy1⟩
    rw [(hv k hsk).2]
    refine Int.le_trans (nuF_mono h.his hk hny) ?_
    rw [nuF_int, ← Int.mul_assoc]
    refine Int.mul_le_mul_of_nonneg_right ?_ (by omega)
    have := (div_mul (a := nu c (fun i => (c.vapour.getD i default).hi) k y + (c.liquid.getD (k + 1) default - c.liquid.getD k default) - 1) (b := c.liquid.getD (k + 1) default - c.liquid.getD k default) (by omega)).2
    rw [Int.add_mul, Int.one_mul] at this
    unfold ce
    omega
  · have hjk : k + 1 ≤ j := by
      refine Nat.le_of_not_lt fun hlt => ?_
      have h3 := hj.2.2
      by_cases e : j + 1 = k + 1
      · rw [e] at h3; omega
      · have := h.lt (i := j + 1) (j := k + 1) (by omega) hk
        omega
    have hA := h.his
    have a1 := hA.le (i := k + 1) (j := j) hjk (by have := hj.1; omega)
    have a2 := (ce_ends h hA hj).1
    rw [(hv j hj).2]
    refine Int.le_trans (nuF_mono hA hk h2) ?_
    rw [nuF_right, Int.mul_assoc]
    exact Int.mul_le_mul_of_nonneg_right (by omega) (Int.mul_nonneg (by omega) (by omega))
/-- a strength below it has no stronger vapour at least -/
theorem low_frac {c : MCurve} (h : Valid c) {k : Nat} {num den x : Int} (hs : SegF c k num den) (hd : 0 < den) (hx : 0 ≤ x ∧ x ≤ 10000) (hnx : x * den ≤ num) : lowV c x * ((c.liquid.getD (k + 1) default - c.liquid.getD k default) * den) ≤ nuF c (fun i => (c.vapour.getD i default).lo) k num den := by
  obtain ⟨hk, h1, h2⟩ := hs
  have hw := (h.step hk).1
  obtain ⟨_, _, ⟨j, hj⟩, hv⟩ := lines_ok h hx
  have xk : x ≤ c.liquid.getD (k + 1) default := Int.le_of_mul_le_mul_right (Int.le_trans hnx h2) hd
  by_cases hx1 : c.liquid.getD k default ≤ x
  · have hsk : Seg c k x := ⟨hk, hx1, xk⟩
    rw [(hv k hsk).1]
    refine Int.le_trans ?_ (nuF_mono h.los hk hnx)
    rw [nuF_int, ← Int.mul_assoc]
    refine Int.mul_le_mul_of_nonneg_right ?_ (by omega)
    exact (div_mul (a := nu c (fun i => (c.vapour.getD i default).lo) k x) (b := c.liquid.getD (k + 1) default - c.liquid.getD k default) (by omega)).1
  · have hjk : j + 1 ≤ k := by
      refine Nat.le_of_not_lt fun hlt => ?_
      have h3 := hj.2.1
      by_cases e : j = k
      · rw [e] at h3; omega
      · have := h.lt (i := k) (j := j) (by omega) (by have := hj.1; omega)
        omega
    have hA := h.los
    have a1 := hA.le (i := j + 1) (j := k) hjk (by omega)
    have a2 := (fl_ends h hA hj).2.1
    rw [(hv j hj).1]
    refine Int.le_trans ?_ (nuF_mono hA hk h1)
    rw [nuF_left, Int.mul_assoc]
    exact Int.mul_le_mul_of_nonneg_right (by omega) (Int.mul_nonneg (by omega) (by omega))
/-- the document's search for the part, at a fraction -/
theorem lineF_loop {c : MCurve} {num den : Int} (h : Valid c) (hd : 0 < den ∧ den ≤ 1000000) (hx : 0 ≤ num ∧ num ≤ 10000 * den) : ∀ (n k : Nat), k + 1 < c.liquid.length → c.liquid.getD k default * den ≤ num → c.liquid.length + 1 ≤ n + k → ∃ j : Nat, wormtubref04_Line_l1 c num den n (k : Int) = some (Lp.done (j : Int)) ∧ SegF c j num den := by
  have h32 := h.most
  intro n
  induction n with
  | zero => intro k h1 h2 h3; omega
  | succ n ih =>
    intro k h1 h2 h3
    have e1 := h.ends (i := k + 1) h1
    have m1 := mul_le (a := c.liquid.getD (k + 1) default) (b := den) (m := 10000) (n := 1000000) e1 (by omega)
    rw [wormtubref04_Line_l1, toNat_one, grd_pos ⟨by omega, fun _ => by omega, fun _ => by omega, fun _ => by omega⟩]
    by_cases hc : k + 2 < c.liquid.length ∧ c.liquid.getD (k + 1) default * den ≤ num
    · rw [cond_t (by simp only [Bool.and_eq_true, decide_eq_true_eq]; exact ⟨by omega, hc.2⟩), grd_pos (by omega)]
      rw [show ((k : Int) + 1) = ((k + 1 : Nat) : Int) by omega]
      exact ih (k + 1) (by omega) hc.2 (by omega)
    · rw [cond_f ?_]
      · refine ⟨k, rfl, h1, h2, ?_⟩
        by_cases e : k + 2 < c.liquid.length
        · have := fun h' => hc ⟨e, h'⟩
          omega
        · rw [show k + 1 = c.liquid.length - 1 by omega, h.last]; omega
      · refine Bool.eq_false_iff.2 fun hh => hc ?_
        simp only [Bool.and_eq_true, decide_eq_true_eq] at hh
        exact ⟨by omega, hh.2⟩
/-- a line at a fraction -/
theorem LineF_eq {c : MCurve} {num den : Int} (h : Valid c) (hd : 0 < den ∧ den ≤ 1000000) (hx : 0 ≤ num ∧ num ≤ 10000 * den) (b : Bool) : ∃ k, SegF c k num den ∧ wormtubref04_Line FU c b num den = some (nuF c (bif b then (fun i => (c.vapour.getD i default).hi) else (fun i => (c.vapour.getD i default).lo)) k num den, (c.liquid.getD (k + 1) default - c.liquid.getD k default) * den) := by
  have h32 := h.most
  have hsm := h.same
  have h0 := h.first
  obtain ⟨k, k1, k2⟩ := lineF_loop h hd hx FU 0 (by have := h.two; omega) (by rw [h0]; omega) (by show c.liquid.length + 1 ≤ 1099511627776 + 0; omega)
  refine ⟨k, k2, ?_⟩
  obtain ⟨s1, s2, s3⟩ := k2
  have hw := h.step s1
  have e0 := h.ends (i := k) (by omega)
  have e1 := h.ends (i := k + 1) (by omega)
  have r0 := (h.rows k (by omega)).1
  have r1 := (h.rows (k + 1) (by omega)).1
  have d0 := mul_le (a := c.liquid.getD k default) (b := den) (m := 10000) (n := 1000000) e0 (by omega)
  have d1 := mul_le (a := c.liquid.getD (k + 1) default - c.liquid.getD k default) (b := den) (m := 10000) (n := 1000000) (by omega) (by omega)
  have d2 := mul_le (a := c.liquid.getD (k + 1) default) (b := den) (m := 10000) (n := 1000000) e1 (by omega)
  unfold wormtubref04_Line
  rw [show wormtubref04_Line_l1 c num den FU 0 = _ from k1]
  show wormtubref04_Line_k1 c b num den (k : Int) = _
  rw [wormtubref04_Line_k1, grd_pos ⟨⟨by omega, by omega⟩, by omega, by omega, by omega⟩]
  simp only [toNat_one, Int.toNat_natCast]
  cases b with
  | true =>
    have p0 := small_mul (a := (c.vapour.getD k default).hi) (b := c.liquid.getD (k + 1) default - c.liquid.getD k default) (by omega) (by omega)
    have p1 := mul_le (a := (c.vapour.getD k default).hi * (c.liquid.getD (k + 1) default - c.liquid.getD k default)) (b := den) (m := 100000000) (n := 1000000) p0 (by omega)
    have p2 := mul_le (a := (c.vapour.getD (k + 1) default).hi - (c.vapour.getD k default).hi) (b := num - c.liquid.getD k default * den) (m := 10000) (n := 10000000000) (by omega) (by omega)
    rw [cond_t rfl, grd_pos (by omega), Option.bind_some, grd_pos ⟨by omega, ⟨by omega, by omega⟩, ⟨by omega, by omega⟩, by omega⟩, grd_pos ?_]
    · rfl
    · and_intros <;> (try dsimp only) <;> omega
  | false =>
    have p0 := small_mul (a := (c.vapour.getD k default).lo) (b := c.liquid.getD (k + 1) default - c.liquid.getD k default) (by omega) (by omega)
    have p1 := mul_le (a := (c.vapour.getD k default).lo * (c.liquid.getD (k + 1) default - c.liquid.getD k default)) (b := den) (m := 100000000) (n := 1000000) p0 (by omega)
    have p2 := mul_le (a := (c.vapour.getD (k + 1) default).lo - (c.vapour.getD k default).lo) (b := num - c.liquid.getD k default * den) (m := 10000) (n := 10000000000) (by omega) (by omega)
    rw [cond_f rfl, Option.bind_some, grd_pos ⟨by omega, ⟨by omega, by omega⟩, ⟨by omega, by omega⟩, by omega⟩, grd_pos ?_]
    · rfl
    · and_intros <;> (try dsimp only) <;> omega
end Go.Proofs.Ytnfahoomoelmcaa
