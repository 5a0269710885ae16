/- An amount, drawn from a true pot, millilitre by millilitre. -/
import Derived.Test.YtnfahoomoelmcaaMaFrac
namespace Go.Proofs.Ytnfahoomoelmcaa
open Go.RowKit Go.Proofs.Try

/-- what is left of a true pot, of which so many millilitres were drawn -/
structure Gone (c : MCurve) (v A : Int) (m : Nat) (B : Int) : Prop where
  in0 : 0 ≤ B ∧ B ≤ 1000000 * (v - m) ∧ B ≤ A
  thin : B * v ≤ A * (v - m)
  low : ∀ W, 0 ≤ W ∧ W ≤ 10000 → (v - m = 0 → W = 0) → W * (100 * (v - m)) ≤ B → m * (100 * lowV c W) ≤ A - B
  high : ∀ S, 0 ≤ S ∧ S ≤ 10000 → A ≤ S * (100 * v) → A - B ≤ m * (100 * highV c S)
theorem swap100 (S a b : Int) : S * (100 * a) * b = S * (100 * b) * a := by
  rw [Int.mul_assoc S, Int.mul_assoc S, Int.mul_assoc 100, Int.mul_assoc 100, Int.mul_comm a b]
theorem cancel {a b c : Int} (hc : 0 < c) (h : a * c ≤ b * c) : a ≤ b := Int.le_of_mul_le_mul_right h hc
/-- one millilitre, ahead of all others -/
theorem Gone.step {c : MCurve} {v A x B : Int} {m : Nat} (h : Valid c) (hv : (m : Int) + 1 ≤ v) (hA : 0 ≤ A ∧ A ≤ 1000000 * v) (hx : 0 ≤ x ∧ x ≤ A) (hthin : (A - x) * v ≤ A * (v - 1)) (hlow : ∀ W, 0 ≤ W ∧ W ≤ 10000 → W * (100 * v) ≤ A → 100 * lowV c W ≤ x) (hhigh : ∀ S, 0 ≤ S ∧ S ≤ 10000 → A ≤ S * (100 * v) → x ≤ 100 * highV c S)
    (hG : Gone c (v - 1) (A - x) m B) : Gone c v A (m + 1) B := by
  obtain ⟨⟨g1, g2, g3⟩, g4, g5, g6⟩ := hG
  have er : v - ((m + 1 : Nat) : Int) = v - 1 - m := by omega
  have thin : B * v ≤ A * (v - 1 - m) := by
    by_cases e : v - 1 = 0
    · have e2 : B = 0 := by omega
      have e3 : v - 1 - m = 0 := by omega
      rw [e2, e3]; omega
    · refine cancel (show 0 < v - 1 by omega) ?_
      have a1 := Int.mul_le_mul_of_nonneg_right g4 (show 0 ≤ v by omega)
      have a2 := Int.mul_le_mul_of_nonneg_right hthin (show 0 ≤ v - 1 - m by omega)
      rw [Int.mul_right_comm B (v - 1) v] at a1
      rw [Int.mul_right_comm (A - x) (v - 1 - m) v] at a1
      rw [Int.mul_right_comm A (v - 1) (v - 1 - m)] at a2
      omega
  refine ⟨by rw [er]; omega, by rw [er]; exact thin, fun W hW h0 hWB => ?_, fun S hS hSA => ?_⟩
  · rw [er] at h0 hWB
    have a1 := g5 W hW h0 hWB
    have a2 : W * (100 * v) ≤ A := by
      by_cases e : v - 1 - m = 0
      · rw [h0 e]; omega
      · refine cancel (show 0 < v - 1 - m by omega) ?_
        have b1 := Int.mul_le_mul_of_nonneg_right hWB (show 0 ≤ v by omega)
        rw [swap100]
        omega
    have a3 := hlow W hW a2
    rw [show ((m + 1 : Nat) : Int) = (m : Int) + 1 by omega, Int.add_mul, Int.one_mul]
    omega
  · have a1 := hhigh S hS hSA
    have a2 : A - x ≤ S * (100 * (v - 1)) := by
      refine cancel (show 0 < v by omega) ?_
      have b1 := Int.mul_le_mul_of_nonneg_right hSA (show 0 ≤ v - 1 by omega)
      rw [swap100]
      omega
    have a3 := g6 S hS a2
    rw [show ((m + 1 : Nat) : Int) = (m : Int) + 1 by omega, Int.add_mul, Int.one_mul]
    omega
theorem nuF_in {c : MCurve} {A : Nat → Int} (h : Valid c) (hA : Rises c A) {k : Nat} {num den : Int} (hs : SegF c k num den) (hd : 0 < den ∧ den ≤ 1000000) : 0 ≤ nuF c A k num den ∧ nuF c A k num den ≤ 100000000000000 ∧ 0 < (c.liquid.getD (k + 1) default - c.liquid.getD k default) * den ∧ (c.liquid.getD (k + 1) default - c.liquid.getD k default) * den ≤ 10000000000 := by
  obtain ⟨hk, h1, h2⟩ := hs
  have hw := (h.step hk).1
  have f0 := h.ends (i := k) (by omega)
  have f1 := h.ends (i := k + 1) hk
  have l1 := nuF_mono hA hk (den := den) h1
  have l2 := nuF_mono hA hk (den := den) h2
  rw [nuF_left] at l1
  rw [nuF_right] at l2
  have p0 := hA.pos k (by omega)
  have p1 := hA.pos (k + 1) hk
  have q1 := hA.most (k + 1) hk
  have d1 := mul_le (a := c.liquid.getD (k + 1) default - c.liquid.getD k default) (b := den) (m := 10000) (n := 1000000) (by omega) (by omega)
  have d0 := Int.mul_pos (show 0 < c.liquid.getD (k + 1) default - c.liquid.getD k default by omega) hd.1
  have z0 := Int.mul_nonneg p0 d1.1
  have z1 := mul_le (a := A (k + 1)) (b := (c.liquid.getD (k + 1) default - c.liquid.getD k default) * den) (m := 10000) (n := 10000000000) ⟨p1, q1⟩ (by omega)
  rw [Int.mul_assoc] at l1 l2
  exact ⟨by omega, by omega, by omega, by omega⟩
theorem ground_loop {c : MCurve} {d : Int} {by' : List Int} (h : Valid c) (hdB : d ≤ 1000000000) (hby : ∀ j, 0 ≤ by'.getD j default ∧ by'.getD j default ≤ 4294967295) (hlen : 0 < by'.length) : ∀ (n m : Nat) (v A k : Int), k + m = d → (m : Int) ≤ v → v ≤ 3000 → 0 ≤ k → 0 ≤ A ∧ A ≤ 1000000 * v → m + 1 ≤ n →
    wormtublaw04_ground_l1 FU c d by' n (v, A, k) = some (Lp.ret (0, false)) ∨ ∃ B, wormtublaw04_ground_l1 FU c d by' n (v, A, k) = some (Lp.done B) ∧ Gone c v A m B := by
  intro n
  induction n with
  | zero => intro m v A k _ _ _ _ _ h; omega
  | succ n ih =>
    intro m v A k hk hmv hv3 hk0 hA hn
    rw [wormtublaw04_ground_l1]
    dsimp only
    cases m with
    | zero =>
      rw [cond_f (by simp; omega)]
      refine .inr ⟨A, rfl, ⟨by omega, by omega, Int.le_refl _⟩, by rw [show v - ((0 : Nat) : Int) = v by omega]; exact Int.le_refl _, fun W _ _ _ => by omega, fun S _ _ => by omega⟩
    | succ m =>
      have hd1 : 0 < 100 * v ∧ 100 * v ≤ 1000000 := by omega
      rw [cond_t (by simp; omega), grd_pos (by omega)]
      obtain ⟨i, hs, e1⟩ := LineF_eq h hd1 (num := A) (by omega) false
      rw [cond_f rfl] at e1
      have hr := nuF_in h h.los hs hd1
      have hst := nuF_strong h h.los hs hd1.1
      have hlf := fun W hW => low_frac h hs hd1.1 (x := W) hW
      rw [bind_ok e1]
      dsimp only
      have hwi := (h.step hs.1).1
      have eb : (c.liquid.getD (i + 1) default - c.liquid.getD i default) * (100 * v) = (c.liquid.getD (i + 1) default - c.liquid.getD i default) * (100 * v) := rfl
      generalize hw : c.liquid.getD (i + 1) default - c.liquid.getD i default = w at *
      generalize nuF c (fun i => (c.vapour.getD i default).lo) i A (100 * v) = a at *
      generalize hb : w * (100 * v) = b at *
      have t1 : (a * 100 + b - 1).tdiv b = (a * 100 + b - 1) / b := tdiv_eq (by omega)
      have t2 := div_in (a := a * 100 + b - 1) (b := b) (by omega) (by omega)
      have t3 := (div_mul (a := a * 100 + b - 1) (b := b) (by omega)).2
      rw [Int.add_mul, Int.one_mul] at t3
      rw [t1, grd_pos ⟨by omega, by omega, by omega, by omega, by omega⟩]
      generalize (a * 100 + b - 1) / b = low at *
      obtain ⟨j, hj, hj0, hjH⟩ : ∃ j, ((bif decide (1 < v) then
          grd (InI64 (A - 1000000) ∧ InI64 (v - 1) ∧ InI64 (100 * (v - 1))) <|
          (wormtubref04_Line FU c true (max 0 (A - 1000000)) (100 * (v - 1))).bind fun (r2 : (Int × Int)) =>
          grd (InI64 (r2.1 * 100) ∧ ¬ r2.2 = 0 ∧ InI64 ((r2.1 * 100).tdiv r2.2)) <|
          some ((r2.1 * 100).tdiv r2.2)
          else some 1000000) : Option Int) = some j ∧ (0 ≤ j ∧ j ≤ 100000000000000000) ∧ ∀ S, 0 ≤ S ∧ S ≤ 10000 → A ≤ S * (100 * v) → min j A ≤ 100 * highV c S := by
        by_cases hv1 : 1 < v
        · have hd2 : 0 < 100 * (v - 1) ∧ 100 * (v - 1) ≤ 1000000 := by omega
          obtain ⟨i2, hs2, e2⟩ := LineF_eq h hd2 (num := max 0 (A - 1000000)) (by omega) true
          rw [cond_t rfl] at e2
          have hr2 := nuF_in h h.his hs2 hd2
          have hhf := fun S hS => high_frac h hs2 hd2.1 (y := S) hS
          rw [cond_t (by simpa using hv1), grd_pos ⟨by omega, by omega, by omega⟩, bind_ok e2]
          dsimp only
          generalize (c.liquid.getD (i2 + 1) default - c.liquid.getD i2 default) * (100 * (v - 1)) = b2 at *
          generalize nuF c (fun i => (c.vapour.getD i default).hi) i2 (max 0 (A - 1000000)) (100 * (v - 1)) = a2 at *
          have u1 : (a2 * 100).tdiv b2 = a2 * 100 / b2 := tdiv_eq (by omega)
          have u2 := div_in (a := a2 * 100) (b := b2) (by omega) (by omega)
          have u3 := (div_mul (a := a2 * 100) (b := b2) (by omega)).1
          rw [u1]
          refine ⟨_, grd_pos ⟨by omega, by omega, by omega⟩ _, ⟨by omega, by omega⟩, fun S hS hSA => ?_⟩
          have w1 : max 0 (A - 1000000) ≤ S * (100 * (v - 1)) := by
            have z0 := Int.mul_nonneg hS.1 (show 0 ≤ 100 * (v - 1) by omega)
            have z1 : A - 1000000 ≤ S * (100 * (v - 1)) := by
              refine cancel (show 0 < v by omega) ?_
              have b1 := Int.mul_le_mul_of_nonneg_right hSA (show 0 ≤ v - 1 by omega)
              rw [swap100, Int.sub_mul]
              rw [Int.mul_sub] at b1
              omega
            omega
          have w2 := hhf S hS w1
          have w3 : a2 * 100 / b2 ≤ 100 * highV c S := by
            refine cancel (show 0 < b2 by omega) ?_
            rw [Int.mul_assoc]
            omega
          omega
        · have e : v = 1 := by omega
          refine ⟨1000000, cond_f (by simpa using hv1) _ _, by omega, fun S hS hSA => ?_⟩
          have := low_in h hS
          subst e
          omega
      rw [bind_ok hj, grd_pos ⟨by omega, by omega, by omega⟩]
      by_cases hlt : min j A < max low (A - 1000000 * (v - 1))
      · rw [cond_t (by simpa using hlt)]
        exact .inl rfl
      · have m0 := Int.emod_nonneg k (b := (by'.length : Int)) (by omega)
        have m1 := Int.emod_lt_of_pos k (b := (by'.length : Int)) (by omega)
        rw [cond_f (decide_eq_false hlt), tmod_eq hk0, grd_pos ⟨by omega, m0, m1⟩]
        obtain ⟨x, hx, x1, x2⟩ := inner_ok (s := MSpan.mk (max low (A - 1000000 * (v - 1))) (min j A)) (by dsimp only; omega) (by dsimp only; omega) (by dsimp only; omega) (.inl (by dsimp only; omega)) (hby (Int.toNat (k % by'.length)))
        dsimp only at x1 x2
        rw [bind_ok hx, grd_pos (by omega), grd_pos (by omega), grd_pos (by omega)]
        have hxb : a * 100 ≤ x * b := by
          have := Int.mul_le_mul_of_nonneg_right (show low ≤ x by omega) (show 0 ≤ b by omega)
          omega
        have hthin : (A - x) * v ≤ A * (v - 1) := by
          have z : A ≤ x * v := by
            refine cancel (show 0 < w by omega) ?_
            have e3 : x * b = 100 * (x * v * w) := by
              rw [← hb, Int.mul_comm w, ← Int.mul_assoc, ← Int.mul_assoc, Int.mul_comm x 100, Int.mul_assoc 100 x v, Int.mul_assoc 100]
            omega
          rw [Int.sub_mul, Int.mul_sub]
          omega
        rcases ih m (v - 1) (A - x) (k + 1) (by omega) (by omega) (by omega) (by omega) (by omega) (by omega) with hret | ⟨B, hB, hG⟩
        · exact .inl hret
        · refine .inr ⟨B, hB, Gone.step h (by omega) hA (by omega) hthin (fun W hW hWA => ?_) (fun S hS hSA => ?_) hG⟩
          · have y1 := hlf W hW hWA
            refine cancel (show 0 < b by omega) ?_
            rw [Int.mul_assoc]
            omega
          · have := hjH S hS hSA
            omega
end Go.Proofs.Ytnfahoomoelmcaa
