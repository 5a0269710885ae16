/- Curves: which are valid; the two lines, as both sides reckon them. -/
import Derived.Test.YtnfahoomoelmcaaMaCycle
namespace Go.Proofs.Ytnfahoomoelmcaa
open Go.RowKit Go.Proofs.Try

/-- liquid i is in order -/
def RowOK (c : MCurve) (i : Nat) : Prop := (0 ≤ ((c.vapour.getD i default)).lo ∧ ((c.vapour.getD i default)).lo ≤ ((c.vapour.getD i default)).hi ∧ ((c.vapour.getD i default)).hi ≤ 10000) ∧ (c.liquid.getD i default) ≤ ((c.vapour.getD i default)).lo ∧ (0 < i → (c.liquid.getD (i - 1) default) < (c.liquid.getD i default) ∧ ((c.vapour.getD (i - 1) default)).lo ≤ ((c.vapour.getD i default)).lo ∧ ((c.vapour.getD (i - 1) default)).hi ≤ ((c.vapour.getD i default)).hi)
structure Valid (c : MCurve) : Prop where
  two : 2 ≤ c.liquid.length
  most : c.liquid.length ≤ 32
  same : c.vapour.length = c.liquid.length
  first : (c.liquid.getD 0 default) = 0
  last : (c.liquid.getD (c.liquid.length - 1) default) = 10000
  none : ((c.vapour.getD 0 default)).lo = 0
  rows : ∀ i, i < c.liquid.length → RowOK c i
theorem toNat_one (i : Nat) : Int.toNat ((i : Int) + 1) = i + 1 := by omega
theorem toNat_sub (i : Nat) : Int.toNat ((i : Int) - 1) = i - 1 := by omega
theorem strengths_eq : still_strengths = some (MSpan.mk 0 10000) := rfl
/-- the loop over the liquids -/
theorem valid_loop {c : MCurve} (hn : c.liquid.length ≤ 32) (hs : c.vapour.length = c.liquid.length) : ∀ (n i : Nat), i ≤ c.liquid.length → c.liquid.length + 1 ≤ n + i →
    ((∀ j, i ≤ j → j < c.liquid.length → RowOK c j) → still_validCurve_l1 c n (i : Int) = some (Lp.done ())) ∧ ((¬ ∀ j, i ≤ j → j < c.liquid.length → RowOK c j) → still_validCurve_l1 c n (i : Int) = some (Lp.ret false)) := by
  intro n
  induction n with
  | zero => intro i h1 h2; omega
  | succ n ih =>
    intro i h1 h2
    rw [still_validCurve_l1]
    by_cases hi : i < c.liquid.length
    · rw [cond_t (by simp; omega), grd_pos ⟨by omega, by omega⟩, strengths_eq]
      simp only [Option.bind_some, covers_eq, Int.toNat_natCast]
      have hstep := ih (i + 1) (by omega) (by omega)
      by_cases h3 : Okay 0 10000 ((c.vapour.getD i default))
      · simp only [h3, decide_true, Bool.not_true, Bool.not_false, Bool.false_or]
        rw [grd_pos (fun _ => ⟨by omega, by omega⟩)]
        by_cases h4 : ((c.vapour.getD i default)).lo < (c.liquid.getD i default)
        · refine ⟨fun h => ?_, fun _ => ?_⟩
          · have := (h i (by omega) hi).2.1
            omega
          · simp only [h4, decide_true, Bool.not_true, Bool.false_and, cond_false, Option.bind_some, Bool.true_or, cond_true]
        · simp only [h4, decide_false, Bool.not_false, Bool.true_and, Bool.false_or]
          by_cases h0 : 0 < i
          · have e0 : decide (0 < (i : Int)) = true := by simp; omega
            simp only [e0, cond_true, Bool.true_and, still_rises, toNat_sub, Int.toNat_natCast]
            rw [grd_pos ⟨by omega, ⟨by omega, by omega⟩, ⟨by omega, by omega⟩⟩, grd_pos ⟨by omega, ⟨by omega, by omega⟩, ⟨by omega, by omega⟩⟩]
            simp only [Option.bind_some]
            by_cases h5 : (c.liquid.getD (i - 1) default) < (c.liquid.getD i default) ∧ ((c.vapour.getD (i - 1) default)).lo ≤ ((c.vapour.getD i default)).lo ∧ ((c.vapour.getD (i - 1) default)).hi ≤ ((c.vapour.getD i default)).hi
            · rw [cond_f (by simp only [h5.1, h5.2.1, h5.2.2, decide_true, Bool.and_self, Bool.not_true]), grd_pos (by omega)]
              rw [show ((i : Int) + 1) = ((i + 1 : Nat) : Int) by omega]
              refine ⟨fun h => hstep.1 fun j hj => h j (by omega), fun h => hstep.2 fun h' => h fun j hj hl => ?_⟩
              by_cases e : j = i
              · subst e; exact ⟨h3, by omega, fun _ => h5⟩
              · exact h' j (by omega) hl
            · rw [cond_t ?_]
              · exact ⟨fun h => absurd ((h i (by omega) hi).2.2 h0) h5, fun _ => rfl⟩
              · simp only [Bool.not_eq_true', Bool.and_eq_false_iff, decide_eq_false_iff_not]
                omega
          · have e0 : decide (0 < (i : Int)) = false := by simp; omega
            rw [cond_f e0, Option.bind_some, cond_f (by rw [e0, Bool.false_and])]
            rw [grd_pos (by omega)]
            rw [show ((i : Int) + 1) = ((i + 1 : Nat) : Int) by omega]
            refine ⟨fun h => hstep.1 fun j hj => h j (by omega), fun h => hstep.2 fun h' => h fun j hj hl => ?_⟩
            by_cases e : j = i
            · subst e; exact ⟨h3, by omega, fun h => absurd h h0⟩
            · exact h' j (by omega) hl
      · simp only [h3, decide_false, Bool.not_false, Bool.not_true, Bool.true_or, Bool.false_and, cond_false, Option.bind_some, cond_true]
        rw [grd_pos (fun h => absurd h (by decide))]
        exact ⟨fun h => absurd (h i (by omega) hi).1 h3, fun _ => rfl⟩
    · rw [cond_f (by simp; omega)]
      exact ⟨fun _ => rfl, fun h => absurd (fun j h1 h2 => absurd h2 (by omega)) h⟩
theorem validCurve_eq (c : MCurve) (hl : c.liquid.length ≤ 140737488355328) (n : Nat) (hn : 40 ≤ n) : (Valid c → still_validCurve n c = some true) ∧ (¬ Valid c → still_validCurve n c = some false) := by
  unfold still_validCurve
  by_cases h1 : (c.liquid.length < 2 ∨ 32 < c.liquid.length) ∨ c.vapour.length ≠ c.liquid.length
  · rw [cond_t (by simp; omega)]
    exact ⟨fun h => by have := h.two; have := h.most; have := h.same; omega, fun _ => rfl⟩
  · rw [cond_f (by simp; omega)]
    have h2 : 2 ≤ c.liquid.length ∧ c.liquid.length ≤ 32 ∧ c.vapour.length = c.liquid.length := by omega
    rw [grd_pos ⟨by omega, fun _ => by omega, fun _ => by omega, fun _ => by omega⟩]
    have e1 : Int.toNat ((c.liquid.length : Int) - 1) = c.liquid.length - 1 := by omega
    rw [e1, show Int.toNat 0 = 0 from rfl]
    by_cases h3 : (c.liquid.getD 0 default) = 0 ∧ (c.liquid.getD (c.liquid.length - 1) default) = 10000 ∧ ((c.vapour.getD 0 default)).lo = 0
    · rw [cond_f (by simp only [h3.1, h3.2.1, h3.2.2, bne_self_eq_false, Bool.or_self])]
      obtain ⟨k1, k2⟩ := valid_loop h2.2.1 h2.2.2 n 0 (by omega) (by omega)
      by_cases h4 : ∀ j, 0 ≤ j → j < c.liquid.length → RowOK c j
      · rw [show ((0 : Int)) = ((0 : Nat) : Int) from rfl, bind_ok (k1 h4)]
        exact ⟨fun _ => rfl, fun h => absurd ⟨h2.1, h2.2.1, h2.2.2, h3.1, h3.2.1, h3.2.2, fun i hi => h4 i (by omega) hi⟩ h⟩
      · rw [show ((0 : Int)) = ((0 : Nat) : Int) from rfl, bind_ok (k2 h4)]
        exact ⟨fun h => absurd (fun j _ hj => h.rows j hj) h4, fun _ => rfl⟩
    · rw [cond_t ?_]
      · exact ⟨fun h => absurd ⟨h.first, h.last, h.none⟩ h3, fun _ => rfl⟩
      · simp only [Bool.or_eq_true, bne_iff_ne, ne_eq]
        omega
/-- the document's loop over the liquids; it asks, too, that no liquid is below 0 -/
theorem curve_loop {c : MCurve} (hn : c.liquid.length ≤ 32) (hs : c.vapour.length = c.liquid.length) : ∀ (n i : Nat), i ≤ c.liquid.length → c.liquid.length + 1 ≤ n + i →
    ((∀ j, i ≤ j → j < c.liquid.length → RowOK c j ∧ 0 ≤ (c.liquid.getD j default)) → wormtubref04_Curve_l1 c n (i : Int) = some (Lp.done ())) ∧ ((¬ ∀ j, i ≤ j → j < c.liquid.length → RowOK c j ∧ 0 ≤ (c.liquid.getD j default)) → wormtubref04_Curve_l1 c n (i : Int) = some (Lp.ret false)) := by
  intro n
  induction n with
  | zero => intro i h1 h2; omega
  | succ n ih =>
    intro i h1 h2
    rw [wormtubref04_Curve_l1]
    by_cases hi : i < c.liquid.length
    · rw [cond_t (by simp; omega), grd_pos ⟨⟨by omega, by omega⟩, by omega, by omega⟩]
      simp only [Option.bind_some, within_eq, Int.toNat_natCast]
      rw [grd_pos (fun _ => ⟨by omega, by omega⟩)]
      have hstep := ih (i + 1) (by omega) (by omega)
      by_cases h3 : Okay ((c.liquid.getD i default)) 10000 ((c.vapour.getD i default)) ∧ 0 ≤ (c.liquid.getD i default)
      · rw [cond_f (by simp only [h3.1, decide_true, Bool.not_true, Bool.false_or, decide_eq_false_iff_not]; omega)]
        have e0 : ∀ p : Prop, (decide (0 < (i : Int)) = true → p) ↔ (0 < i → p) := fun p => by simp
        rw [grd_pos ?_]
        · simp only [toNat_sub]
          by_cases h0 : 0 < i
          · have e0 : decide (0 < (i : Int)) = true := by simp; omega
            by_cases h5 : (c.liquid.getD (i - 1) default) < (c.liquid.getD i default) ∧ ((c.vapour.getD (i - 1) default)).lo ≤ ((c.vapour.getD i default)).lo ∧ ((c.vapour.getD (i - 1) default)).hi ≤ ((c.vapour.getD i default)).hi
            · rw [cond_f (by refine Bool.eq_false_iff.2 fun h => ?_; simp only [e0, Bool.true_and, Bool.or_eq_true, decide_eq_true_eq] at h; omega), grd_pos (by omega)]
              rw [show ((i : Int) + 1) = ((i + 1 : Nat) : Int) by omega]
              refine ⟨fun h => hstep.1 fun j hj => h j (by omega), fun h => hstep.2 fun h' => h fun j hj hl => ?_⟩
              by_cases e : j = i
              · subst e
                obtain ⟨⟨g1, g2, g3⟩, g4⟩ := h3
                exact ⟨⟨⟨by omega, g2, g3⟩, g1, fun _ => h5⟩, g4⟩
              · exact h' j (by omega) hl
            · rw [cond_t ?_]
              · exact ⟨fun h => absurd ((h i (by omega) hi).1.2.2 h0) h5, fun _ => rfl⟩
              · simp only [e0, Bool.true_and, Bool.or_eq_true, decide_eq_true_eq]
                omega
          · have e0 : decide (0 < (i : Int)) = false := by simp; omega
            rw [cond_f (by rw [e0, Bool.false_and])]
            rw [grd_pos (by omega)]
            rw [show ((i : Int) + 1) = ((i + 1 : Nat) : Int) by omega]
            refine ⟨fun h => hstep.1 fun j hj => h j (by omega), fun h => hstep.2 fun h' => h fun j hj hl => ?_⟩
            by_cases e : j = i
            · subst e
              obtain ⟨⟨g1, g2, g3⟩, g4⟩ := h3
              exact ⟨⟨⟨by omega, g2, g3⟩, g1, fun h => absurd h h0⟩, g4⟩
            · exact h' j (by omega) hl
        · simp only [Bool.and_eq_true, decide_eq_true_eq]
          and_intros <;> intro h <;> omega
      · rw [cond_t ?_]
        · refine ⟨fun h => absurd ?_ h3, fun _ => rfl⟩
          obtain ⟨⟨⟨g1, g2, g3⟩, g4, _⟩, g5⟩ := h i (by omega) hi
          exact ⟨⟨g4, g2, g3⟩, g5⟩
        · simp only [Bool.or_eq_true, Bool.not_eq_true', decide_eq_false_iff_not, decide_eq_true_eq]
          by_cases h : Okay ((c.liquid.getD i default)) 10000 ((c.vapour.getD i default))
          · exact .inr (Int.not_le.1 fun h' => h3 ⟨h, h'⟩)
          · exact .inl h
    · rw [cond_f (by simp; omega)]
      exact ⟨fun _ => rfl, fun h => absurd (fun j h1 h2 => absurd h2 (by omega)) h⟩
theorem liquid_pos {c : MCurve} (h0 : (c.liquid.getD 0 default) = 0) (hr : ∀ i, i < c.liquid.length → RowOK c i) : ∀ i, i < c.liquid.length → 0 ≤ (c.liquid.getD i default)
  | 0, _ => by omega
  | i + 1, hi => by
    have := liquid_pos h0 hr i (by omega)
    have h2 := ((hr (i + 1) hi).2.2 (by omega)).1
    simp only [Nat.add_sub_cancel] at h2
    omega
theorem Curve_eq (c : MCurve) (hl : c.liquid.length ≤ 140737488355328) (n : Nat) (hn : 40 ≤ n) : (Valid c → wormtubref04_Curve n c = some true) ∧ (¬ Valid c → wormtubref04_Curve n c = some false) := by
  unfold wormtubref04_Curve
  simp only [in_eq, Option.bind_some]
  by_cases h1 : (c.liquid.length < 2 ∨ 32 < c.liquid.length) ∨ c.vapour.length ≠ c.liquid.length
  · rw [cond_t (by simp; omega)]
    exact ⟨fun h => by have := h.two; have := h.most; have := h.same; omega, fun _ => rfl⟩
  · rw [cond_f (by simp; omega)]
    have h2 : 2 ≤ c.liquid.length ∧ c.liquid.length ≤ 32 ∧ c.vapour.length = c.liquid.length := by omega
    obtain ⟨k1, k2⟩ := curve_loop h2.2.1 h2.2.2 n 0 (by omega) (by omega)
    by_cases h4 : ∀ j, 0 ≤ j → j < c.liquid.length → RowOK c j ∧ 0 ≤ (c.liquid.getD j default)
    · rw [show wormtubref04_Curve_l1 c n 0 = some (Lp.done ()) from k1 h4]
      show (Valid c → wormtubref04_Curve_k1 c () = _) ∧ (_ → wormtubref04_Curve_k1 c () = _)
      rw [wormtubref04_Curve_k1, grd_pos ⟨by omega, fun _ => by omega, fun _ => by omega, fun _ => by omega⟩]
      have e1 : Int.toNat ((c.liquid.length : Int) - 1) = c.liquid.length - 1 := by omega
      rw [e1, show Int.toNat 0 = 0 from rfl]
      by_cases h3 : (c.liquid.getD 0 default) = 0 ∧ (c.liquid.getD (c.liquid.length - 1) default) = 10000 ∧ ((c.vapour.getD 0 default)).lo = 0
      · exact ⟨fun _ => by simp only [h3.1, h3.2.1, h3.2.2, beq_self_eq_true, Bool.and_self], fun h => absurd ⟨h2.1, h2.2.1, h2.2.2, h3.1, h3.2.1, h3.2.2, fun i hi => (h4 i (by omega) hi).1⟩ h⟩
      · refine ⟨fun h => absurd ⟨h.first, h.last, h.none⟩ h3, fun _ => ?_⟩
        simp only [Option.some.injEq, Bool.and_eq_false_iff, beq_eq_false_iff_ne]
        omega
    · rw [show wormtubref04_Curve_l1 c n 0 = some (Lp.ret false) from k2 h4]
      exact ⟨fun h => absurd (fun j _ hj => ⟨h.rows j hj, liquid_pos h.first h.rows j hj⟩) h4, fun _ => rfl⟩
end Go.Proofs.Ytnfahoomoelmcaa
