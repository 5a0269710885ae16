/- What is known of all that a run draws. -/
import Derived.Test.YtnfahoomoelmcaaMaRef
namespace Go.Proofs.Ytnfahoomoelmcaa
open Go.RowKit Go.Proofs.Try

/-- an amount that was drawn -/
def DrawnOK (x : MDrawn) (d : Int) : Prop := x.amount = d ∧ 1 ≤ d ∧ d ≤ 1073741824 ∧ 0 ≤ x.alcohol.lo ∧ x.alcohol.lo ≤ x.alcohol.hi ∧ x.alcohol.hi ≤ d
/-- all that was drawn, of these amounts -/
structure Goods (xs : List MDrawn) (l : List Int) : Prop where
  len : xs.length = l.length
  all : ∀ i, i < l.length → DrawnOK (xs.getD i default) (l.getD i default)
theorem hand_goods {c : MCurve} (h : Valid c) : ∀ {l : List Int} {p : MPot}, PotOK p → (handV c p l).2.2 = none → Goods (handV c p l).1 l ∧ PotOK (handV c p l).2.1
  | [], p, hp, _ => ⟨⟨rfl, fun i hi => absurd hi (by simp)⟩, hp⟩
  | d :: r, p, hp, hn => by
    unfold handV at hn ⊢
    cases e : stepV c p d with
    | error k => rw [e] at hn; cases hn
    | ok y =>
      rw [e] at hn
      dsimp only at hn ⊢
      obtain ⟨hd, rfl⟩ := stepV_ok e
      have hr := dr_ok h hp hd
      obtain ⟨⟨g1, g2⟩, g3⟩ := hand_goods h (l := r) (next_ok hp hd hr) hn
      refine ⟨⟨by simp [g1], fun i hi => ?_⟩, g3⟩
      cases i with
      | zero =>
        have := hp.1.2
        have := hr.least0
        have := hr.least1
        have := hr.most1
        exact ⟨rfl, by show 1 ≤ d; omega, by show d ≤ 1073741824; omega, by show 0 ≤ (drV c p d).least; omega, by show (drV c p d).least ≤ (drV c p d).most; omega, by show (drV c p d).most ≤ d; omega⟩
      | succ i => exact g2 i (by simpa using hi)
/-- how check and a run end -/
inductive RunEnd (c : MCurve) (p : MPot) (l : List Int) : Int → (List MDrawn × MPot × Int) → Prop where
  | early (k : Int) (hk : k = 3 ∨ k = 1) : RunEnd c p l k ([], MPot.mk 0 (MSpan.mk 0 0), k)
  | died (h : Valid c) (hp : PotOK p) (hl : l.length ≤ 64) (k : Int) (hk : k = 2 ∨ k = 10) (hn : (handV c p l).2.2 = some k) : RunEnd c p l 0 ([], MPot.mk 0 (MSpan.mk 0 0), k)
  | good (h : Valid c) (hp : PotOK p) (hl : l.length ≤ 64) (hn : (handV c p l).2.2 = none) (hg : Goods (handV c p l).1 l) (hq : PotOK (handV c p l).2.1) : RunEnd c p l 0 ((handV c p l).1, (handV c p l).2.1, 0)
theorem hand_err {c : MCurve} : ∀ {l : List Int} {p : MPot} {k : Int}, (handV c p l).2.2 = some k → k = 2 ∨ k = 10
  | [], p, k, h => by cases h
  | d :: r, p, k, h => by
    unfold handV at h
    cases e : stepV c p d with
    | error j =>
      rw [e] at h
      cases h
      exact stepV_err e
    | ok y =>
      rw [e] at h
      exact hand_err (l := r) h
theorem run_end (c : MCurve) (p : MPot) (l : List Int) (hl : c.liquid.length ≤ 140737488355328) : ∃ k r, (still_check FU c (MPot.mk p.volume (MSpan.mk p.alcohol.lo p.alcohol.hi)) l = some k ∧ wormtubref04_early FU c (MPot.mk p.volume (MSpan.mk p.alcohol.lo p.alcohol.hi)) l = some k) ∧ (runOf FU c p l = some r ∧ wormtubref04_Run FU c p l = some r) ∧ RunEnd c p l k r := by
  obtain ⟨k, hc, hk⟩ := check_eq c p l hl
  rcases hk with ⟨h1, rfl⟩ | ⟨h1, h2, rfl⟩ | ⟨h1, h2, h3, rfl⟩
  · exact ⟨3, _, hc, ⟨(runOf_eq c p l hl).1 h1, (runR_eq c p l hl).1 h1⟩, .early 3 (.inl rfl)⟩
  · exact ⟨1, _, hc, ⟨(runOf_eq c p l hl).2.1 h1 h2, (runR_eq c p l hl).2.1 h1 h2⟩, .early 1 (.inr rfl)⟩
  · refine ⟨0, _, hc, ⟨(runOf_eq c p l hl).2.2 h1 h2 h3, (runR_eq c p l hl).2.2 h1 h2 h3⟩, ?_⟩
    unfold runV
    cases e : (handV c p l).2.2 with
    | none =>
      obtain ⟨g1, g2⟩ := hand_goods h2 h3 e
      exact .good h2 h3 h1 e g1 g2
    | some k => exact .died h2 h3 h1 k (hand_err e) e
theorem ints_loop (a : List Int) (ha : a.length ≤ 1000000) : ∀ (n i : Nat), i ≤ a.length → a.length + 1 ≤ n + i → wormtubref04_Ints_l1 a a n (i : Int) = some (Lp.done ()) := by
  intro n
  induction n with
  | zero => intro i h1 h2; omega
  | succ n ih =>
    intro i h1 h2
    rw [wormtubref04_Ints_l1]
    by_cases hi : i < a.length
    · rw [cond_t (by simp; omega), grd_pos ⟨⟨by omega, by omega⟩, by omega, by omega⟩, cond_f (by simp), grd_pos (by omega), show ((i : Int) + 1) = ((i + 1 : Nat) : Int) by omega]
      exact ih (i + 1) (by omega) (by omega)
    · rw [cond_f (by simp; omega)]
theorem ints_eq (a : List Int) (ha : a.length ≤ 1000000) : wormtubref04_Ints FU a a = some true := by
  unfold wormtubref04_Ints
  rw [cond_f (by simp)]
  rw [show wormtubref04_Ints_l1 a a FU 0 = _ from ints_loop a ha FU 0 (by omega) (by show a.length + 1 ≤ 1099511627776 + 0; omega)]
  rfl
end Go.Proofs.Ytnfahoomoelmcaa
