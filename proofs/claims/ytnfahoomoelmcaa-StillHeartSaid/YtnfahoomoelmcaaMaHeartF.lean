/- Heart, the program's and the document's. -/
import Derived.Test.YtnfahoomoelmcaaMaFacts
namespace Go.Proofs.Ytnfahoomoelmcaa
open Go.RowKit Go.Proofs.Try

def sumL (xs : List MDrawn) (f : Nat) : Nat → Int
  | 0 => 0
  | k + 1 => sumL xs f k + (xs.getD (f + k) default).alcohol.lo
def sumA (xs : List MDrawn) (f : Nat) : Nat → Int
  | 0 => 0
  | k + 1 => sumA xs f k + (xs.getD (f + k) default).amount
/-- with this amount it is surely reached -/
def Sure (xs : List MDrawn) (f : Nat) (t : Int) (k : Nat) : Prop := t * sumA xs f (k + 1) ≤ sumL xs f (k + 1) * 10000
theorem sums_in {xs : List MDrawn} {l : List Int} (hg : Goods xs l) (f : Nat) : ∀ k, f + k ≤ l.length → (0 ≤ sumA xs f k ∧ sumA xs f k ≤ k * 1073741824) ∧ 0 ≤ sumL xs f k ∧ sumL xs f k ≤ k * 1073741824
  | 0, _ => by simp [sumA, sumL]
  | k + 1, h => by
    have ih := sums_in hg f k (by omega)
    obtain ⟨x1, x2, x3, x4, x5, x6⟩ := hg.all (f + k) (by omega)
    simp only [sumA, sumL]
    omega
def HeartSt (xs : List MDrawn) (f : Nat) (t : Int) (k : Nat) (e last : Int) : Prop := (e = 4 ∧ last = 0 ∧ ∀ j, j < k → ¬ Sure xs f t j) ∨ (e = 0 ∧ ∃ j : Nat, j < k ∧ last = ((f + j : Nat) : Int) ∧ Sure xs f t j ∧ ∀ i, j < i → i < k → ¬ Sure xs f t i)
def HeartR (xs : List MDrawn) (f : Nat) (t : Int) (k : Nat) (best : Int) : Prop := (best = -1 ∧ ∀ j, j < k → ¬ Sure xs f t j) ∨ ∃ j : Nat, j < k ∧ best = ((f + j : Nat) : Int) ∧ Sure xs f t j ∧ ∀ i, j < i → i < k → ¬ Sure xs f t i
theorem HeartSt.sure {xs : List MDrawn} {f : Nat} {t : Int} {k : Nat} (h : Sure xs f t k) : HeartSt xs f t (k + 1) 0 ((f + k : Nat) : Int) := .inr ⟨rfl, k, by omega, rfl, h, fun i h1 h2 => by omega⟩
theorem HeartSt.not {xs : List MDrawn} {f : Nat} {t : Int} {k : Nat} {e last : Int} (h : ¬ Sure xs f t k) (hs : HeartSt xs f t k e last) : HeartSt xs f t (k + 1) e last := by
  rcases hs with ⟨h1, h2, h3⟩ | ⟨h1, j, h2, h3, h4, h5⟩
  · exact .inl ⟨h1, h2, fun j hj => if e : j = k then by subst e; exact h else h3 j (by omega)⟩
  · exact .inr ⟨h1, j, by omega, h3, h4, fun i h6 h7 => if e : i = k then by subst e; exact h else h5 i h6 (by omega)⟩
theorem HeartR.sure {xs : List MDrawn} {f : Nat} {t : Int} {k : Nat} (h : Sure xs f t k) : HeartR xs f t (k + 1) ((f + k : Nat) : Int) := .inr ⟨k, by omega, rfl, h, fun i h1 h2 => by omega⟩
theorem HeartR.not {xs : List MDrawn} {f : Nat} {t : Int} {k : Nat} {best : Int} (h : ¬ Sure xs f t k) (hs : HeartR xs f t k best) : HeartR xs f t (k + 1) best := by
  rcases hs with ⟨h2, h3⟩ | ⟨j, h2, h3, h4, h5⟩
  · exact .inl ⟨h2, fun j hj => if e : j = k then by subst e; exact h else h3 j (by omega)⟩
  · exact .inr ⟨j, by omega, h3, h4, fun i h6 h7 => if e : i = k then by subst e; exact h else h5 i h6 (by omega)⟩
theorem HeartSt.link {xs : List MDrawn} {f : Nat} {t : Int} {k : Nat} {e last best : Int} (h : HeartSt xs f t k e last) (h' : HeartR xs f t k best) : (e = 4 ∧ last = 0 ∧ best = -1) ∨ (e = 0 ∧ best = last ∧ 0 ≤ last) := by
  rcases h with ⟨h1, h2, h3⟩ | ⟨h1, j, h2, h3, h4, h5⟩ <;> rcases h' with ⟨k1, k2⟩ | ⟨i, k1, k2, k3, k4⟩
  · exact .inl ⟨h1, h2, k1⟩
  · exact absurd k3 (h3 i k1)
  · exact absurd h4 (k2 j h2)
  · have : i = j := by
      rcases Nat.lt_trichotomy i j with e | e | e
      · exact absurd h4 (k4 j e h2)
      · exact e
      · exact absurd k3 (h5 i e k1)
    subst this
    exact .inr ⟨h1, by omega, by omega⟩
theorem tgt {t a : Int} {k : Nat} (ht : 1 ≤ t ∧ t ≤ 10000) (hk : k ≤ 65) (ha : 0 ≤ a ∧ a ≤ k * 1073741824) : 0 ≤ t * a ∧ t * a ≤ 700000000000000 := by
  have h1 := Int.mul_nonneg (show 0 ≤ t by omega) ha.1
  have h2 := Int.mul_le_mul_of_nonneg_right ht.2 ha.1
  omega
theorem heart_loop {xs : List MDrawn} {l : List Int} {q : MPot} {f : Nat} {t : Int} (hg : Goods xs l) (h64 : l.length ≤ 64) (hf : f ≤ l.length) (ht : 1 ≤ t ∧ t ≤ 10000) : ∀ (n k : Nat) (e last : Int), f + k ≤ l.length → l.length + 1 ≤ n + (f + k) → HeartSt xs f t k e last →
    ∃ e' last', still_Heart_l1 t (xs, q, 0) n (e, last, sumA xs f k, sumL xs f k, ((f + k : Nat) : Int)) = some (Lp.done (e', last')) ∧ HeartSt xs f t (l.length - f) e' last' := by
  intro n
  induction n with
  | zero => intro k e last h1 h2; omega
  | succ n ih =>
    intro k e last h1 h2 hs
    have hlen := hg.len
    rw [still_Heart_l1]
    dsimp only
    by_cases hi : f + k < l.length
    · have hb := sums_in hg f k (by omega)
      have hb2 := sums_in hg f (k + 1) (by omega)
      have hu := tgt ht (show k + 1 ≤ 65 by omega) hb2.1
      have e1 : (((f + k : Nat) : Int) + 1) = ((f + (k + 1) : Nat) : Int) := by omega
      rw [cond_t (by simp; omega), Int.toNat_natCast]
      rw [show sumA xs f k + (xs.getD (f + k) default).amount = sumA xs f (k + 1) from rfl, show sumL xs f k + (xs.getD (f + k) default).alcohol.lo = sumL xs f (k + 1) from rfl]
      rw [grd_pos ⟨by omega, by omega, by omega⟩, grd_pos ⟨by omega, by omega⟩]
      by_cases hc : Sure xs f t k
      · rw [cond_t (show decide (t * sumA xs f (k + 1) ≤ sumL xs f (k + 1) * 10000) = true from decide_eq_true hc), grd_pos (by omega), e1]
        exact ih (k + 1) _ _ (by omega) (by omega) (.sure hc)
      · rw [cond_f (show decide (t * sumA xs f (k + 1) ≤ sumL xs f (k + 1) * 10000) = false from decide_eq_false hc), grd_pos (by omega), e1]
        exact ih (k + 1) _ _ (by omega) (by omega) (hs.not hc)
    · rw [cond_f (by simp; omega)]
      refine ⟨e, last, rfl, ?_⟩
      rw [show l.length - f = k by omega]
      exact hs
theorem heartR_loop {xs : List MDrawn} {l : List Int} {q : MPot} {f : Nat} {t : Int} (hg : Goods xs l) (h64 : l.length ≤ 64) (hf : f ≤ l.length) (ht : 1 ≤ t ∧ t ≤ 10000) : ∀ (n k : Nat) (best : Int), f + k ≤ l.length → l.length + 1 ≤ n + (f + k) → HeartR xs f t k best →
    ∃ best', wormtubref04_Heart_l1 l t (xs, q, 0) n (best, sumL xs f k, sumA xs f k, ((f + k : Nat) : Int)) = some (Lp.done best') ∧ HeartR xs f t (l.length - f) best' := by
  intro n
  induction n with
  | zero => intro k best h1 h2; omega
  | succ n ih =>
    intro k best h1 h2 hs
    have hlen := hg.len
    rw [wormtubref04_Heart_l1]
    dsimp only
    by_cases hi : f + k < l.length
    · have hb := sums_in hg f k (by omega)
      have hb2 := sums_in hg f (k + 1) (by omega)
      have hu := tgt ht (show k + 1 ≤ 65 by omega) hb2.1
      have hx := (hg.all (f + k) hi).1
      have e1 : (((f + k : Nat) : Int) + 1) = ((f + (k + 1) : Nat) : Int) := by omega
      rw [cond_t (by simp; omega), Int.toNat_natCast]
      rw [← hx]
      rw [show sumA xs f k + (xs.getD (f + k) default).amount = sumA xs f (k + 1) from rfl, show sumL xs f k + (xs.getD (f + k) default).alcohol.lo = sumL xs f (k + 1) from rfl]
      rw [grd_pos ⟨by omega, by omega⟩, grd_pos ⟨by omega, by omega⟩, grd_pos ⟨by omega, by omega⟩]
      by_cases hc : Sure xs f t k
      · rw [cond_t (show decide (t * sumA xs f (k + 1) ≤ sumL xs f (k + 1) * 10000) = true from decide_eq_true hc), grd_pos (by omega), e1]
        exact ih (k + 1) _ (by omega) (by omega) (.sure hc)
      · rw [cond_f (show decide (t * sumA xs f (k + 1) ≤ sumL xs f (k + 1) * 10000) = false from decide_eq_false hc), grd_pos (by omega), e1]
        exact ih (k + 1) _ (by omega) (by omega) (hs.not hc)
    · rw [cond_f (by simp; omega)]
      refine ⟨best, rfl, ?_⟩
      rw [show l.length - f = k by omega]
      exact hs
/-- how Heart ends -/
theorem heart_both (c : MCurve) (p : MPot) (l : List Int) (from' t : Int) (hl : c.liquid.length ≤ 140737488355328) (hl2 : l.length ≤ 140737488355328) : ∃ k r x, RunEnd c p l k r ∧ runOf FU c p l = some r ∧ still_Heart FU c p l from' t = some x ∧ wormtubref04_Heart FU c p l from' t = some x ∧
    ((x.2 ≠ 0 ∧ x.2 ≠ 4 ∧ x.1 = 0) ∨ (r.2.2 = 0 ∧ Goods r.1 l ∧ l.length ≤ 64 ∧ (1 ≤ t ∧ t ≤ 10000) ∧ ∃ f : Nat, from' = f ∧ f < l.length ∧ HeartSt r.1 f t (l.length - f) x.2 x.1)) := by
  obtain ⟨k, r, ⟨hc, hcR⟩, ⟨hr, hrR⟩, hE⟩ := run_end c p l hl
  unfold still_Heart wormtubref04_Heart
  rw [bind_ok hc, bind_ok hcR]
  by_cases hk : k = 0
  case neg =>
    rw [cond_t (by simpa using hk), cond_t (by simpa using hk)]
    refine ⟨k, r, _, hE, hr, rfl, rfl, .inl ⟨hk, ?_, rfl⟩⟩
    cases hE with
    | early k hk => show k ≠ 4; omega
    | died => exact absurd rfl hk
    | good => exact absurd rfl hk
  subst hk
  rw [cn0, cn0, grd_pos (by omega), bind_ok (in_eq _ _ _)]
  have hr' : runOf FU c (MPot.mk p.volume (MSpan.mk p.alcohol.lo p.alcohol.hi)) l = some r := hr
  have hrR' : wormtubref04_Run FU c (MPot.mk p.volume (MSpan.mk p.alcohol.lo p.alcohol.hi)) l = some r := hrR
  by_cases h1 : (0 ≤ from' ∧ from' ≤ (l.length : Int) - 1) ∧ (1 ≤ t ∧ t ≤ 10000)
  case neg =>
    refine ⟨0, r, (0, 2), hE, hr, ?_, ?_, .inl ⟨by decide, by decide, rfl⟩⟩
    · rw [cond_t (by simp only [Bool.or_eq_true, decide_eq_true_eq]; omega)]
    · by_cases h2 : 0 ≤ from' ∧ from' ≤ (l.length : Int) - 1
      · rw [decide_eq_true h2, cnn, bind_ok (in_eq _ _ _), decide_eq_false (fun h3 => h1 ⟨h2, h3⟩), cor_f]
      · rw [decide_eq_false h2]
        rfl
  rw [cond_f (by refine Bool.eq_false_iff.2 fun h => ?_; simp only [Bool.or_eq_true, decide_eq_true_eq] at h; omega), decide_eq_true h1.1, cnn, bind_ok (in_eq _ _ _), decide_eq_true h1.2, cor_t, bind_ok hr', bind_ok hrR']
  cases hE with
  | early k hk => omega
  | died h hp h64 k hk hn =>
    rw [cond_t (by simp only [bne_iff_ne, ne_eq]; omega), cond_t (by simp only [bne_iff_ne, ne_eq]; omega)]
    exact ⟨0, _, _, .died h hp h64 k hk hn, hr, rfl, rfl, .inl ⟨by show k ≠ 0; omega, by show k ≠ 4; omega, rfl⟩⟩
  | good h hp h64 hn hg hq =>
    obtain ⟨f, rfl⟩ : ∃ f : Nat, from' = f := ⟨from'.toNat, by omega⟩
    obtain ⟨e, last, k1, k2⟩ := heart_loop (q := (handV c p l).2.1) hg h64 (f := f) (by omega) h1.2 FU 0 4 0 (by omega) (by show l.length + 1 ≤ 1099511627776 + (f + 0); omega) (.inl ⟨rfl, rfl, fun j hj => absurd hj (by omega)⟩)
    obtain ⟨best, k3, k4⟩ := heartR_loop (q := (handV c p l).2.1) hg h64 (f := f) (by omega) h1.2 FU 0 (-1) (by omega) (by show l.length + 1 ≤ 1099511627776 + (f + 0); omega) (.inl ⟨rfl, fun j hj => absurd hj (by omega)⟩)
    refine ⟨0, _, (last, e), .good h hp h64 hn hg hq, hr, (cn0 _ _).trans ?_, (cn0 _ _).trans ?_, .inr ⟨rfl, hg, h64, h1.2, f, rfl, by omega, k2⟩⟩
    · rw [show still_Heart_l1 t ((handV c p l).1, (handV c p l).2.1, 0) FU (4, 0, 0, 0, (f : Int)) = _ from k1]
      rfl
    · rw [show wormtubref04_Heart_l1 l t ((handV c p l).1, (handV c p l).2.1, 0) FU (-1, 0, 0, (f : Int)) = _ from k3]
      show (bif decide (best < 0) then _ else _ : Option _) = _
      rcases k2.link k4 with ⟨rfl, rfl, rfl⟩ | ⟨rfl, rfl, h0⟩
      · rfl
      · rw [cond_f (by simp; omega)]
end Go.Proofs.Ytnfahoomoelmcaa
