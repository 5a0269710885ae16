/- Plates, the program's and the document's, in closed form. -/
import Derived.Test.YtnfahoomoelmcaaMaThru
namespace Go.Proofs.Ytnfahoomoelmcaa
open Go.RowKit Go.Proofs.Try

/-- from plate to plate -/
def itV (V : Int → Int) (s : Int) : Nat → Int
  | 0 => s
  | n + 1 => V (itV V s n)
/-- the first of 101 that is enough -/
def First (it : Nat → Int) (t r : Int) : Prop := (r = -1 ∧ ∀ j, j ≤ 100 → it j < t) ∨ ∃ m : Nat, m ≤ 100 ∧ r = m ∧ t ≤ it m ∧ ∀ j, j < m → it j < t
theorem First.same {it : Nat → Int} {t r r' : Int} (h : First it t r) (h' : First it t r') : r = r' := by
  rcases h with ⟨h1, h2⟩ | ⟨m, h1, h2, h3, h4⟩ <;> rcases h' with ⟨k1, k2⟩ | ⟨l, k1, k2, k3, k4⟩
  · omega
  · have := h2 l k1; omega
  · have := k2 m h1; omega
  · rcases Nat.lt_trichotomy m l with e | e | e
    · have := k4 m e; omega
    · omega
    · have := h4 l e; omega
theorem it_in {V : Int → Int} (hV : ∀ x, 0 ≤ x ∧ x ≤ 10000 → x ≤ V x ∧ V x ≤ 10000) {s : Int} (hs : 0 ≤ s ∧ s ≤ 10000) : ∀ n, 0 ≤ itV V s n ∧ itV V s n ≤ 10000
  | 0 => hs
  | n + 1 => by
    have h := it_in hV hs n
    have := hV _ h
    show 0 ≤ V _ ∧ V _ ≤ 10000
    omega
theorem it_step {V : Int → Int} (hV : ∀ x, 0 ≤ x ∧ x ≤ 10000 → x ≤ V x ∧ V x ≤ 10000) {s : Int} (hs : 0 ≤ s ∧ s ≤ 10000) (n : Nat) : itV V s n ≤ itV V s (n + 1) := (hV _ (it_in hV hs n)).1
theorem it_up {V : Int → Int} (hV : ∀ x, 0 ≤ x ∧ x ≤ 10000 → x ≤ V x ∧ V x ≤ 10000) {s : Int} (hs : 0 ≤ s ∧ s ≤ 10000) {m : Nat} : ∀ {n : Nat}, m ≤ n → itV V s m ≤ itV V s n
  | 0, h => by have : m = 0 := by omega
               subst this; exact Int.le_refl _
  | n + 1, h => by
    by_cases e : m = n + 1
    · subst e; exact Int.le_refl _
    · exact Int.le_trans (it_up hV hs (n := n) (by omega)) (it_step hV hs n)
theorem highs {c : MCurve} (h : Valid c) : ∀ x, 0 ≤ x ∧ x ≤ 10000 → x ≤ highV c x ∧ highV c x ≤ 10000 := fun x hx => by have := low_in h hx; omega
theorem lows {c : MCurve} (h : Valid c) : ∀ x, 0 ≤ x ∧ x ≤ 10000 → x ≤ lowV c x ∧ lowV c x ≤ 10000 := fun x hx => by have := low_in h hx; omega
theorem platesLow_loop {c : MCurve} (h : Valid c) {s t : Int} (hs : 0 ≤ s ∧ s ≤ 10000) : ∀ (n i : Nat), i ≤ 101 → 103 ≤ n + i → (∀ j, j < i → itV (lowV c) s j < t) → ∃ r, ((platesLow_l1 FU c t n (itV (lowV c) s i, (i : Int))).bind fun lr1 => lr1.go fun x1 => platesLow_k1 x1) = some r ∧ First (itV (lowV c) s) t r := by
  intro n
  induction n with
  | zero => intro i _ h; omega
  | succ n ih =>
    intro i h1 h2 hj
    rw [platesLow_l1]
    by_cases hi : i < 101
    · rw [cond_t (by simp; omega)]
      by_cases hc : t ≤ itV (lowV c) s i
      · rw [cond_t (by simpa using hc)]
        exact ⟨_, rfl, .inr ⟨i, by omega, rfl, hc, hj⟩⟩
      · rw [cond_f (by simpa using hc)]
        have hx := it_in (lows h) hs i
        rw [bind_ok (lines_ok h hx).1, grd_pos (by dsimp only; omega)]
        obtain ⟨r, k1, k2⟩ := ih (i + 1) (by omega) (by omega) fun j hj' => by
          by_cases e : j = i
          · subst e; omega
          · exact hj j (by omega)
        refine ⟨r, ?_, k2⟩
        rw [← k1, show ((i + 1 : Nat) : Int) = (i : Int) + 1 by omega]
        rfl
    · rw [cond_f (by simp; omega)]
      exact ⟨-1, rfl, .inl ⟨rfl, fun j hj' => hj j (by omega)⟩⟩
theorem platesHigh_loop {c : MCurve} (h : Valid c) {s t : Int} (hs : 0 ≤ s ∧ s ≤ 10000) : ∀ (n i : Nat), i ≤ 101 → 103 ≤ n + i → (∀ j, j < i → itV (highV c) s j < t) → ∃ r, ((platesHigh_l1 FU c t n (itV (highV c) s i, (i : Int))).bind fun lr1 => lr1.go fun x1 => platesHigh_k1 x1) = some r ∧ First (itV (highV c) s) t r := by
  intro n
  induction n with
  | zero => intro i _ h; omega
  | succ n ih =>
    intro i h1 h2 hj
    rw [platesHigh_l1]
    by_cases hi : i < 101
    · rw [cond_t (by simp; omega)]
      by_cases hc : t ≤ itV (highV c) s i
      · rw [cond_t (by simpa using hc)]
        exact ⟨_, rfl, .inr ⟨i, by omega, rfl, hc, hj⟩⟩
      · rw [cond_f (by simpa using hc)]
        have hx := it_in (highs h) hs i
        rw [bind_ok (lines_ok h hx).2.1, grd_pos (by dsimp only; omega)]
        obtain ⟨r, k1, k2⟩ := ih (i + 1) (by omega) (by omega) fun j hj' => by
          by_cases e : j = i
          · subst e; omega
          · exact hj j (by omega)
        refine ⟨r, ?_, k2⟩
        rw [← k1, show ((i + 1 : Nat) : Int) = (i : Int) + 1 by omega]
        rfl
    · rw [cond_f (by simp; omega)]
      exact ⟨-1, rfl, .inl ⟨rfl, fun j hj' => hj j (by omega)⟩⟩
theorem fu40 : 40 ≤ FU := by decide
theorem point (x : Int) : Okay 0 10000 (MSpan.mk x x) ↔ 0 ≤ x ∧ x ≤ 10000 := ⟨fun h => ⟨h.1, h.2.2⟩, fun h => ⟨h.1, Int.le_refl _, h.2⟩⟩
/-- what Plates gives -/
def platesOf (p s : Int) : Int × Int × Int := if p = -1 then (0, 0, 12) else (p, s, 0)
theorem plates_bad {c : MCurve} {f t : Int} (h : ¬ Valid c) (hl : c.liquid.length ≤ 140737488355328) : still_Plates FU c f t = some (0, 0, 1) ∧ wormtubref04_Plates FU c f t = some (0, 0, 1) := by
  unfold still_Plates wormtubref04_Plates
  rw [bind_ok ((validCurve_eq c hl FU fu40).2 h), bind_ok ((Curve_eq c hl FU fu40).2 h)]
  exact ⟨rfl, rfl⟩
theorem plates_range {c : MCurve} {f t : Int} (h : Valid c) (hl : c.liquid.length ≤ 140737488355328) (hr : ¬ ((0 ≤ f ∧ f ≤ 10000) ∧ 0 ≤ t ∧ t ≤ 10000)) : still_Plates FU c f t = some (0, 0, 2) ∧ wormtubref04_Plates FU c f t = some (0, 0, 2) := by
  unfold still_Plates wormtubref04_Plates
  rw [bind_ok ((validCurve_eq c hl FU fu40).1 h), bind_ok ((Curve_eq c hl FU fu40).1 h)]
  simp only [strengths_eq, covers_eq, in_eq, Option.bind_some, Bool.not_true, cond_false, point]
  by_cases h1 : 0 ≤ f ∧ f ≤ 10000
  · have h2 : ¬ (0 ≤ t ∧ t ≤ 10000) := fun h2 => hr ⟨h1, h2⟩
    simp [h1, h2, point]
  · simp [h1, point]
theorem plates_good {c : MCurve} {f t : Int} (h : Valid c) (hl : c.liquid.length ≤ 140737488355328) (hf : 0 ≤ f ∧ f ≤ 10000) (ht : 0 ≤ t ∧ t ≤ 10000) : ∃ p s, First (itV (highV c) f) t p ∧ First (itV (lowV c) f) t s ∧ still_Plates FU c f t = some (platesOf p s) := by
  unfold still_Plates
  rw [bind_ok ((validCurve_eq c hl FU fu40).1 h)]
  simp only [strengths_eq, covers_eq, Option.bind_some, Bool.not_true, cond_false, point, hf, ht, and_self, decide_true, Bool.not_false, cond_true, Bool.or_self]
  obtain ⟨p, p1, p2⟩ := platesHigh_loop h hf (t := t) FU 0 (by omega) (by decide) (fun j hj => absurd hj (by omega))
  obtain ⟨s, s1, s2⟩ := platesLow_loop h hf (t := t) FU 0 (by omega) (by decide) (fun j hj => absurd hj (by omega))
  refine ⟨p, s, p2, s2, ?_⟩
  rw [show platesHigh FU c f t = some p from p1, show platesLow FU c f t = some s from s1]
  show (bif (p == -1) then _ else _ : Option _) = _
  unfold platesOf
  by_cases e : p = -1
  · rw [cond_t (by simpa using e), if_pos e]
  · rw [cond_f (by simpa using e), if_neg e]
/-- the first up to here -/
def FirstTo (it : Nat → Int) (t : Int) (n : Nat) (r : Int) : Prop := (r = -1 ∧ ∀ j, j < n → it j < t) ∨ ∃ m : Nat, m < n ∧ r = m ∧ t ≤ it m ∧ ∀ j, j < m → it j < t
theorem FirstTo.step {it : Nat → Int} {t : Int} {n : Nat} {r : Int} (h : FirstTo it t n r) : FirstTo it t (n + 1) (bif decide (t ≤ it n) && decide (r < 0) then (n : Int) else r) := by
  rcases h with ⟨rfl, h2⟩ | ⟨m, h1, rfl, h3, h4⟩
  · by_cases hc : t ≤ it n
    · rw [cond_t (by simpa using hc)]
      exact .inr ⟨n, by omega, rfl, hc, h2⟩
    · rw [cond_f (by simpa using hc)]
      refine .inl ⟨rfl, fun j hj => ?_⟩
      by_cases e : j = n
      · subst e; omega
      · exact h2 j (by omega)
  · rw [cond_f (by refine Bool.eq_false_iff.2 fun h => ?_; simp only [Bool.and_eq_true, decide_eq_true_eq] at h; omega)]
    exact .inr ⟨m, by omega, rfl, h3, h4⟩
theorem FirstTo.all {it : Nat → Int} {t r : Int} (h : FirstTo it t 101 r) : First it t r := by
  rcases h with ⟨h1, h2⟩ | ⟨m, h1, h2, h3, h4⟩
  · exact .inl ⟨h1, fun j hj => h2 j (by omega)⟩
  · exact .inr ⟨m, by omega, h2, h3, h4⟩
theorem cond_some {α : Type} (b : Bool) (x y : α) : (bif b then some x else some y) = some (bif b then x else y) := by cases b <;> rfl
theorem plates_loop {c : MCurve} (h : Valid c) {f t : Int} (hf : 0 ≤ f ∧ f ≤ 10000) : ∀ (n i : Nat) (p s : Int), i ≤ 101 → 103 ≤ n + i → FirstTo (itV (highV c) f) t i p → FirstTo (itV (lowV c) f) t i s →
    ∃ p' s', wormtubref04_Plates_l1 FU c t n (p, s, itV (lowV c) f i, itV (highV c) f i, (i : Int)) = some (Lp.done (p', s')) ∧ First (itV (highV c) f) t p' ∧ First (itV (lowV c) f) t s' := by
  intro n
  induction n with
  | zero => intro i p s _ h; omega
  | succ n ih =>
    intro i p s h1 h2 hp hs
    rw [wormtubref04_Plates_l1]
    by_cases hi : i < 101
    · rw [cond_t (by simp; omega), cond_some, Option.bind_some, cond_some, Option.bind_some]
      have hl := it_in (lows h) hf i
      have hh := it_in (highs h) hf i
      obtain ⟨p', s', k1, k2, k3⟩ := ih (i + 1) _ _ (by omega) (by omega) hp.step hs.step
      refine ⟨p', s', ?_, k2, k3⟩
      refine (bind_ok (vapourR_eq h (s := MSpan.mk (itV (lowV c) f i) (itV (lowV c) f i)) hl hl) _).trans ((bind_ok (vapourR_eq h (s := MSpan.mk (itV (highV c) f i) (itV (highV c) f i)) hh hh) _).trans ((grd_pos (by dsimp only; omega) _).trans ?_))
      rw [← k1, show ((i + 1 : Nat) : Int) = (i : Int) + 1 by omega]
      rfl
    · have e : i = 101 := by omega
      subst e
      rw [cond_f (by simp)]
      exact ⟨p, s, rfl, hp.all, hs.all⟩
theorem platesR_good {c : MCurve} {f t p s : Int} (h : Valid c) (hl : c.liquid.length ≤ 140737488355328) (hf : 0 ≤ f ∧ f ≤ 10000) (ht : 0 ≤ t ∧ t ≤ 10000) (hp : First (itV (highV c) f) t p) (hs : First (itV (lowV c) f) t s) : wormtubref04_Plates FU c f t = some (platesOf p s) := by
  unfold wormtubref04_Plates
  rw [bind_ok ((Curve_eq c hl FU fu40).1 h)]
  simp only [in_eq, Option.bind_some, Bool.not_true, cond_false, hf, ht, and_self, decide_true, Bool.not_false, cond_true, Bool.or_self]
  obtain ⟨p', s', k1, k2, k3⟩ := plates_loop h hf (t := t) FU 0 (-1) (-1) (by omega) (by decide) (.inl ⟨rfl, fun j hj => absurd hj (by omega)⟩) (.inl ⟨rfl, fun j hj => absurd hj (by omega)⟩)
  rw [hp.same k2, hs.same k3]
  rw [show wormtubref04_Plates_l1 FU c t FU (-1, -1, f, f, 0) = _ from k1]
  show (bif decide (p' < 0) then _ else _ : Option _) = _
  unfold platesOf
  rcases k2 with ⟨rfl, _⟩ | ⟨m, _, rfl, _⟩
  · rfl
  · rw [cond_f (by simp), if_neg (by omega)]
end Go.Proofs.Ytnfahoomoelmcaa
