/- The program's lines and the document's are the same. -/
import Derived.Test.YtnfahoomoelmcaaMaLines
namespace Go.Proofs.Ytnfahoomoelmcaa
open Go.RowKit Go.Proofs.Try

def lowV (c : MCurve) (x : Int) : Int := (thruLow FU c x).getD 0
def highV (c : MCurve) (x : Int) : Int := (thruHigh FU c x).getD 0
theorem thru_loop {c : MCurve} {x : Int} (h : Valid c) (hx : 0 ≤ x ∧ x ≤ 10000) : ∀ (n k : Nat), 1 ≤ k → k < c.liquid.length → (c.liquid.getD (k - 1) default) ≤ x → c.liquid.length + 1 ≤ n + k → ∃ j : Nat, thruLow_l1 c x n (k : Int) = some (Lp.done (j : Int)) ∧ thruHigh_l1 c x n (k : Int) = some (Lp.done (j : Int)) ∧ 1 ≤ j ∧ Seg c (j - 1) x := by
  have h32 := h.most
  intro n
  induction n with
  | zero => intro k h1 h2 _ h4; omega
  | succ n ih =>
    intro k h1 h2 h3 h4
    rw [thruLow_l1, thruHigh_l1, grd_pos ⟨by omega, by omega⟩, Int.toNat_natCast]
    by_cases hc : (c.liquid.getD k default) < x
    · have hk : k + 1 < c.liquid.length := by
        by_cases e : k = c.liquid.length - 1
        · rw [e, h.last] at hc; omega
        · omega
      rw [cond_t (by simpa using hc), grd_pos (by omega), cond_t (by simpa using hc), grd_pos ⟨by omega, by omega⟩, grd_pos (by omega)]
      rw [show ((k : Int) + 1) = ((k + 1 : Nat) : Int) by omega]
      exact ih (k + 1) (by omega) hk (by simpa using Int.le_of_lt hc) (by omega)
    · rw [cond_f (by simpa using hc), grd_pos ⟨by omega, by omega⟩, cond_f (by simpa using hc)]
      refine ⟨k, rfl, rfl, h1, ?_, h3, ?_⟩
      · omega
      · rw [show k - 1 + 1 = k by omega]; omega
theorem small_mul {a b : Int} (ha : 0 ≤ a ∧ a ≤ 10000) (hb : 0 ≤ b ∧ b ≤ 10000) : 0 ≤ a * b ∧ a * b ≤ 100000000 := by
  have h1 := Int.mul_nonneg ha.1 hb.1
  have h2 := Int.mul_le_mul_of_nonneg_right ha.2 hb.1
  omega
theorem thru_at {c : MCurve} {x : Int} {k : Nat} (h : Valid c) (hs : Seg c k x) : thruLow_k1 c x ((k + 1 : Nat) : Int) = some (fl c (fun i => (c.vapour.getD i default).lo) k x) ∧ thruHigh_k1 c x ((k + 1 : Nat) : Int) = some (ce c (fun i => (c.vapour.getD i default).hi) k x) := by
  obtain ⟨s1, s2, s3⟩ := hs
  have h32 := h.most
  have hsm := h.same
  have hw := h.step s1
  have e0 := h.ends (i := k) (by omega)
  have e1 := h.ends (i := k + 1) (by omega)
  have r0 := (h.rows k (by omega)).1
  have r1 := (h.rows (k + 1) (by omega)).1
  have p1 := small_mul (a := ((c.vapour.getD (k + 1) default)).lo - ((c.vapour.getD k default)).lo) (b := x - (c.liquid.getD k default)) (by omega) (by omega)
  have p2 := small_mul (a := ((c.vapour.getD (k + 1) default)).hi - ((c.vapour.getD k default)).hi) (b := x - (c.liquid.getD k default)) (by omega) (by omega)
  have d1 := div_in p1.1 (show 0 < (c.liquid.getD (k + 1) default) - (c.liquid.getD k default) by omega)
  have t1 : Int.toNat (((k + 1 : Nat) : Int) - 1) = k := by omega
  have t2 : Int.toNat ((k + 1 : Nat) : Int) = k + 1 := by omega
  constructor
  · rw [thruLow_k1, grd_pos ⟨by omega, by omega, by omega⟩]
    simp only [still_linesOf_1, Option.bind_some, t1, t2]
    rw [grd_pos ⟨by omega, by omega⟩, grd_pos ⟨by omega, by omega, ⟨by omega, by omega⟩, by omega, by omega, ⟨by omega, by omega⟩, by omega, by omega⟩, still_down, tdiv_eq p1.1, grd_pos ⟨by omega, by omega⟩, Option.bind_some]
    rw [grd_pos (by omega)]
    congr 1
    unfold fl nu
    rw [Int.add_comm ((c.vapour.getD k default).lo * _), Int.add_mul_ediv_right _ _ (by omega)]
    exact Int.add_comm _ _
  · rw [thruHigh_k1, grd_pos ⟨by omega, by omega, by omega⟩]
    simp only [still_linesOf_2, Option.bind_some, t1, t2]
    have d2 := div_in (a := (((c.vapour.getD (k + 1) default)).hi - ((c.vapour.getD k default)).hi) * (x - (c.liquid.getD k default)) + ((c.liquid.getD (k + 1) default) - (c.liquid.getD k default)) - 1) (by omega) (show 0 < (c.liquid.getD (k + 1) default) - (c.liquid.getD k default) by omega)
    rw [grd_pos ⟨by omega, by omega⟩, grd_pos ⟨by omega, by omega, ⟨by omega, by omega⟩, by omega, by omega, ⟨by omega, by omega⟩, by omega, by omega⟩, up_eq (by omega) (by omega), Option.bind_some]
    rw [grd_pos (by omega)]
    congr 1
    unfold ce nu
    rw [show (c.vapour.getD k default).hi * ((c.liquid.getD (k + 1) default) - (c.liquid.getD k default)) + ((c.vapour.getD (k + 1) default).hi - (c.vapour.getD k default).hi) * (x - (c.liquid.getD k default)) + ((c.liquid.getD (k + 1) default) - (c.liquid.getD k default)) - 1 = ((c.vapour.getD (k + 1) default).hi - (c.vapour.getD k default).hi) * (x - (c.liquid.getD k default)) + ((c.liquid.getD (k + 1) default) - (c.liquid.getD k default)) - 1 + (c.vapour.getD k default).hi * ((c.liquid.getD (k + 1) default) - (c.liquid.getD k default)) by omega, Int.add_mul_ediv_right _ _ (by omega)]
    exact Int.add_comm _ _
/-- the two lines of a valid curve -/
theorem lines_ok {c : MCurve} {x : Int} (h : Valid c) (hx : 0 ≤ x ∧ x ≤ 10000) : thruLow FU c x = some (lowV c x) ∧ thruHigh FU c x = some (highV c x) ∧ (∃ k, Seg c k x) ∧ ∀ k, Seg c k x → lowV c x = fl c (fun i => (c.vapour.getD i default).lo) k x ∧ highV c x = ce c (fun i => (c.vapour.getD i default).hi) k x := by
  have h0 := h.first
  obtain ⟨j, j1, j2, j3, j4⟩ := thru_loop h hx FU 1 (Nat.le_refl 1) (by have := h.two; omega) (by show (c.liquid.getD 0 default) ≤ x; omega) (by have := h.most; show c.liquid.length + 1 ≤ 1099511627776 + 1; omega)
  obtain ⟨k1, k2⟩ := thru_at h j4
  rw [show j - 1 + 1 = j by omega] at k1 k2
  have e1 : thruLow FU c x = some (fl c (fun i => (c.vapour.getD i default).lo) (j - 1) x) := by
    unfold thruLow
    rw [show thruLow_l1 c x FU 1 = _ from j1]
    exact k1
  have e2 : thruHigh FU c x = some (ce c (fun i => (c.vapour.getD i default).hi) (j - 1) x) := by
    unfold thruHigh
    rw [show thruHigh_l1 c x FU 1 = _ from j2]
    exact k2
  refine ⟨by rw [lowV, e1]; rfl, by rw [highV, e2]; rfl, ⟨_, j4⟩, fun k hk => ⟨?_, ?_⟩⟩
  · rw [lowV, e1]; exact fl_same h j4 hk
  · rw [highV, e2]; exact ce_same h j4 hk
theorem low_in {c : MCurve} {x : Int} (h : Valid c) (hx : 0 ≤ x ∧ x ≤ 10000) : x ≤ lowV c x ∧ lowV c x ≤ highV c x ∧ highV c x ≤ 10000 := by
  obtain ⟨_, _, ⟨k, hk⟩, hv⟩ := lines_ok h hx
  rw [(hv k hk).1, (hv k hk).2]
  have := fl_ends h h.los hk
  have := ce_ends h h.his hk
  have r0 := (h.rows k (by have := hk.1; omega)).1
  have r1 := (h.rows (k + 1) (by have := hk.1; omega)).1
  have := fl_le_ce (A := (fun i => (c.vapour.getD i default).lo)) (B := (fun i => (c.vapour.getD i default).hi)) h hk r0.2.1 r1.2.1
  exact ⟨by omega, this, by have : (c.vapour.getD (k + 1) default).hi ≤ 10000 := r1.2.2; omega⟩
theorem low_mono {c : MCurve} {x y : Int} (h : Valid c) (hx : 0 ≤ x) (hxy : x ≤ y) (hy : y ≤ 10000) : lowV c x ≤ lowV c y ∧ highV c x ≤ highV c y := by
  obtain ⟨_, _, ⟨k, hk⟩, hv⟩ := lines_ok h (x := x) ⟨hx, by omega⟩
  obtain ⟨_, _, ⟨j, hj⟩, hu⟩ := lines_ok h (x := y) ⟨by omega, hy⟩
  rw [(hv k hk).1, (hv k hk).2, (hu j hj).1, (hu j hj).2]
  exact ⟨fl_mono h h.los hk hj hxy, ce_mono h h.his hk hj hxy⟩
theorem vapour_eq {c : MCurve} {s : MSpan} (h : Valid c) (h1 : 0 ≤ s.lo ∧ s.lo ≤ 10000) (h2 : 0 ≤ s.hi ∧ s.hi ≤ 10000) : still_lines_vapour FU c s = some (MSpan.mk (lowV c s.lo) (highV c s.hi)) := by
  unfold still_lines_vapour
  rw [bind_ok (lines_ok h h1).1, bind_ok (lines_ok h h2).2.1]
/-- the document's search for the part -/
theorem line_loop {c : MCurve} {x : Int} (h : Valid c) (hx : 0 ≤ x ∧ x ≤ 10000) : ∀ (n k : Nat), k + 1 < c.liquid.length → (c.liquid.getD k default) ≤ x → c.liquid.length + 1 ≤ n + k → ∃ j : Nat, wormtubref04_Line_l1 c x 1 n (k : Int) = some (Lp.done (j : Int)) ∧ Seg c j x := by
  have h32 := h.most
  intro n
  induction n with
  | zero => intro k h1 h2 h3; omega
  | succ n ih =>
    intro k h1 h2 h3
    have e1 := h.ends (i := k + 1) h1
    rw [wormtubref04_Line_l1, toNat_one, grd_pos ⟨by omega, fun _ => by omega, fun _ => by omega, fun _ => by have : (c.liquid.getD (k + 1) default) * 1 = (c.liquid.getD (k + 1) default) := Int.mul_one _; show InI64 ((c.liquid.getD (k + 1) default) * 1); omega⟩]
    by_cases hc : k + 2 < c.liquid.length ∧ (c.liquid.getD (k + 1) default) * 1 ≤ x
    · rw [cond_t (by simp only [Bool.and_eq_true, decide_eq_true_eq]; exact ⟨by omega, hc.2⟩), grd_pos (by omega)]
      rw [show ((k : Int) + 1) = ((k + 1 : Nat) : Int) by omega]
      exact ih (k + 1) (by omega) (by have := hc.2; rw [Int.mul_one] at this; exact this) (by omega)
    · rw [cond_f ?_]
      · refine ⟨k, rfl, h1, h2, ?_⟩
        by_cases e : k + 2 < c.liquid.length
        · have := fun h' => hc ⟨e, h'⟩
          rw [Int.mul_one] at this
          omega
        · rw [show k + 1 = c.liquid.length - 1 by omega, h.last]; omega
      · refine Bool.eq_false_iff.2 fun hh => hc ?_
        simp only [Bool.and_eq_true, decide_eq_true_eq] at hh
        exact ⟨by omega, hh.2⟩
theorem Line_eq {c : MCurve} {x : Int} (h : Valid c) (hx : 0 ≤ x ∧ x ≤ 10000) (b : Bool) : ∃ k, Seg c k x ∧ wormtubref04_Line FU c b x 1 = some (nu c (bif b then (fun i => (c.vapour.getD i default).hi) else (fun i => (c.vapour.getD i default).lo)) k x, (c.liquid.getD (k + 1) default) - (c.liquid.getD k default)) := by
  have h32 := h.most
  have hsm := h.same
  have h0 := h.first
  obtain ⟨k, k1, k2⟩ := line_loop h hx FU 0 (by have := h.two; omega) (by show (c.liquid.getD 0 default) ≤ x; omega) (by show c.liquid.length + 1 ≤ 1099511627776 + 0; omega)
  refine ⟨k, k2, ?_⟩
  obtain ⟨s1, s2, s3⟩ := k2
  have hw := h.step s1
  have e0 := h.ends (i := k) (by omega)
  have e1 := h.ends (i := k + 1) (by omega)
  have r0 := (h.rows k (by omega)).1
  have r1 := (h.rows (k + 1) (by omega)).1
  unfold wormtubref04_Line
  rw [show wormtubref04_Line_l1 c x 1 FU 0 = _ from k1]
  show wormtubref04_Line_k1 c b x 1 (k : Int) = _
  rw [wormtubref04_Line_k1, grd_pos ⟨⟨by omega, by omega⟩, by omega, by omega, by omega⟩]
  simp only [toNat_one, Int.toNat_natCast, Int.mul_one]
  cases b with
  | true =>
    have p0 := small_mul (a := ((c.vapour.getD k default)).hi) (b := (c.liquid.getD (k + 1) default) - (c.liquid.getD k default)) (by omega) (by omega)
    have p2 := small_mul (a := ((c.vapour.getD (k + 1) default)).hi - ((c.vapour.getD k default)).hi) (b := x - (c.liquid.getD k default)) (by omega) (by omega)
    rw [cond_t rfl, grd_pos (by omega), Option.bind_some, grd_pos ⟨by omega, ⟨by omega, by omega⟩, ⟨by omega, by omega⟩, by omega⟩, grd_pos ?_]
    · rfl
    · and_intros <;> (try dsimp only) <;> omega
  | false =>
    have p0 := small_mul (a := ((c.vapour.getD k default)).lo) (b := (c.liquid.getD (k + 1) default) - (c.liquid.getD k default)) (by omega) (by omega)
    have p2 := small_mul (a := ((c.vapour.getD (k + 1) default)).lo - ((c.vapour.getD k default)).lo) (b := x - (c.liquid.getD k default)) (by omega) (by omega)
    rw [cond_f rfl, Option.bind_some, grd_pos ⟨by omega, ⟨by omega, by omega⟩, ⟨by omega, by omega⟩, by omega⟩, grd_pos ?_]
    · rfl
    · and_intros <;> (try dsimp only) <;> omega
theorem vapourR_eq {c : MCurve} {s : MSpan} (h : Valid c) (h1 : 0 ≤ s.lo ∧ s.lo ≤ 10000) (h2 : 0 ≤ s.hi ∧ s.hi ≤ 10000) : wormtubref04_vapour FU c s = some (MSpan.mk (lowV c s.lo) (highV c s.hi)) := by
  unfold wormtubref04_vapour
  obtain ⟨k, hk, e1⟩ := Line_eq h h1 false
  obtain ⟨j, hj, e2⟩ := Line_eq h h2 true
  have l1 := low_in h h1
  have l2 := low_in h h2
  rw [(( lines_ok h h1).2.2.2 k hk).1] at l1 ⊢
  rw [((lines_ok h h2).2.2.2 j hj).2] at l2 ⊢
  rw [cond_f rfl] at e1
  rw [cond_t rfl] at e2
  have hw := (h.step hk.1).1
  have hw2 := (h.step hj.1).1
  have f0 := h.ends (i := k) (by have := hk.1; omega)
  have f1 := h.ends (i := k + 1) hk.1
  have f2 := h.ends (i := j) (by have := hj.1; omega)
  have f3 := h.ends (i := j + 1) hj.1
  have g0 := nu_mono h.los hk.1 hk.2.1
  have g1 := nu_mono h.his hj.1 hj.2.1
  have g2 := nu_mono h.his hj.1 hj.2.2
  rw [nu_left] at g0 g1
  rw [nu_right] at g2
  have r0 := (h.rows k (by have := hk.1; omega)).1
  have r1 := (h.rows j (by have := hj.1; omega)).1
  have r2 := (h.rows (j + 1) hj.1).1
  have p0 := small_mul (a := (c.vapour.getD k default).lo) (b := (c.liquid.getD (k + 1) default) - (c.liquid.getD k default)) (by show 0 ≤ ((c.vapour.getD k default)).lo ∧ ((c.vapour.getD k default)).lo ≤ 10000; omega) (by omega)
  have p1 := small_mul (a := (c.vapour.getD j default).hi) (b := (c.liquid.getD (j + 1) default) - (c.liquid.getD j default)) (by show 0 ≤ ((c.vapour.getD j default)).hi ∧ ((c.vapour.getD j default)).hi ≤ 10000; omega) (by omega)
  have p2 := small_mul (a := (c.vapour.getD (j + 1) default).hi) (b := (c.liquid.getD (j + 1) default) - (c.liquid.getD j default)) (by show 0 ≤ ((c.vapour.getD (j + 1) default)).hi ∧ ((c.vapour.getD (j + 1) default)).hi ≤ 10000; omega) (by omega)
  have q : 0 ≤ nu c (fun i => (c.vapour.getD i default).lo) k s.lo := by omega
  have q2 : 0 ≤ nu c (fun i => (c.vapour.getD i default).hi) j s.hi ∧ nu c (fun i => (c.vapour.getD i default).hi) j s.hi ≤ 100000000 := by omega
  have l3 : nu c (fun i => (c.vapour.getD i default).lo) k s.lo / ((c.liquid.getD (k + 1) default) - (c.liquid.getD k default)) = fl c (fun i => (c.vapour.getD i default).lo) k s.lo := rfl
  have l4 := fl_ends h h.los hk
  have l5 := (h.rows (k + 1) hk.1).1
  have k1 : ¬ c.liquid.getD (k + 1) default - c.liquid.getD k default = 0 := by omega
  have k2 : InI64 ((nu c (fun i => (c.vapour.getD i default).lo) k s.lo).tdiv (c.liquid.getD (k + 1) default - c.liquid.getD k default)) := by
    rw [tdiv_eq q, l3]
    omega
  refine (bind_ok e1 _).trans ((bind_ok e2 _).trans ((grd_pos ⟨k1, k2⟩ _).trans ((bind_ok (upR_eq ⟨q2.1, (by omega)⟩ (by omega)) _).trans ?_)))
  show some (MSpan.mk ((nu c (fun i => (c.vapour.getD i default).lo) k s.lo).tdiv (c.liquid.getD (k + 1) default - c.liquid.getD k default)) _) = _
  rw [tdiv_eq q]
  rfl
end Go.Proofs.Ytnfahoomoelmcaa
