/- The document's Draw and Run are the program's. -/
import Derived.Test.YtnfahoomoelmcaaMaDraw
namespace Go.Proofs.Ytnfahoomoelmcaa
open Go.RowKit Go.Proofs.Try

def outD (x : Except Int (MDrawn × MPot)) : MDrawn × MPot × Int := match x with
  | .error k => (MDrawn.mk 0 (MSpan.mk 0 0), MPot.mk 0 (MSpan.mk 0 0), k)
  | .ok y => (y.1, y.2, 0)
theorem stepV_err {c : MCurve} {p : MPot} {d k : Int} (e : stepV c p d = .error k) : k = 2 ∨ k = 10 := by
  unfold stepV at e
  by_cases h1 : d < 1 ∨ 1073741824 < d
  · rw [if_pos h1] at e; cases e; exact .inl rfl
  rw [if_neg h1] at e
  by_cases h2 : p.volume < d
  · rw [if_pos h2] at e; cases e; exact .inr rfl
  rw [if_neg h2] at e
  cases e
theorem DrawR_eq {c : MCurve} {p : MPot} {d : Int} (h : Valid c) (hl : c.liquid.length ≤ 140737488355328) (hp : PotOK p) : wormtubref04_Draw FU c p d = some (outD (stepV c p d)) := by
  unfold wormtubref04_Draw
  rw [bind_ok ((Curve_eq c hl FU (by decide)).1 h), cnn, bind_ok (Pot_eq p), decide_eq_true (show (0 ≤ p.volume ∧ p.volume ≤ 1073741824) ∧ Okay 0 p.volume p.alcohol from hp), cor_t, bind_ok (in_eq _ _ _)]
  unfold stepV
  by_cases h1 : d < 1 ∨ 1073741824 < d
  · rw [if_pos h1, cond_t (by simp; omega)]
    rfl
  rw [if_neg h1, cond_f (by simp; omega)]
  by_cases h2 : p.volume < d
  · rw [if_pos h2, cond_t (by simpa using h2)]
    rfl
  rw [if_neg h2, cond_f (by simpa using h2), bind_ok (drawR_eq h hp (by omega))]
  rfl
theorem DrawR_bad {c : MCurve} {p : MPot} {d : Int} (h : ¬ (Valid c ∧ PotOK p)) (hl : c.liquid.length ≤ 140737488355328) : wormtubref04_Draw FU c p d = some (MDrawn.mk 0 (MSpan.mk 0 0), MPot.mk 0 (MSpan.mk 0 0), 1) := by
  unfold wormtubref04_Draw
  by_cases h1 : Valid c
  · have h2 : ¬ ((0 ≤ p.volume ∧ p.volume ≤ 1073741824) ∧ Okay 0 p.volume p.alcohol) := fun h2 => h ⟨h1, h2⟩
    rw [bind_ok ((Curve_eq c hl FU (by decide)).1 h1), cnn, bind_ok (Pot_eq p), decide_eq_false h2, cor_f]
  · rw [bind_ok ((Curve_eq c hl FU (by decide)).2 h1)]
    rfl
theorem hand_one (c : MCurve) (p : MPot) (d : Int) : runV c p [d] = match stepV c p d with
    | .error k => ([], MPot.mk 0 (MSpan.mk 0 0), k)
    | .ok y => ([y.1], y.2, 0) := by
  unfold runV handV
  cases stepV c p d with
  | error k => rfl
  | ok y => rfl
theorem Draw_eq {c : MCurve} {p : MPot} {d : Int} (h : Valid c) (hl : c.liquid.length ≤ 140737488355328) (hp : PotOK p) : still_Draw FU c p d = some (outD (stepV c p d)) := by
  unfold still_Draw
  rw [bind_ok ((runOf_eq c _ [d] hl).2.2 (by simp) h hp)]
  rw [hand_one c (MPot.mk p.volume (MSpan.mk p.alcohol.lo p.alcohol.hi)) d]
  show ((bif ((match stepV c p d with | .error k => (([], MPot.mk 0 (MSpan.mk 0 0), k) : List MDrawn × MPot × Int) | .ok y => ([y.1], y.2, 0)).2.2 != 0) then _ else _ : Option _)) = _
  cases e : stepV c p d with
  | error k =>
    have := stepV_err e
    rw [cond_t (by simp; omega)]
    rfl
  | ok y =>
    refine (cn0 _ _).trans ?_
    exact grd_pos ⟨by omega, by show (0 : Int) < 1; omega⟩ _
theorem Draw_bad {c : MCurve} {p : MPot} {d : Int} (h : ¬ (Valid c ∧ PotOK p)) (hl : c.liquid.length ≤ 140737488355328) : still_Draw FU c p d = some (MDrawn.mk 0 (MSpan.mk 0 0), MPot.mk 0 (MSpan.mk 0 0), 1) := by
  unfold still_Draw
  rw [bind_ok ((runOf_eq c _ [d] hl).2.1 (by simp) h)]
  rfl
theorem draw_both (c : MCurve) (p : MPot) (d : Int) (hl : c.liquid.length ≤ 140737488355328) : ∃ r, still_Draw FU c p d = some r ∧ wormtubref04_Draw FU c p d = some r := by
  by_cases h : Valid c ∧ PotOK p
  · exact ⟨_, Draw_eq h.1 hl h.2, DrawR_eq h.1 hl h.2⟩
  · exact ⟨_, Draw_bad h hl, DrawR_bad h hl⟩
def endR (out : List MDrawn) (z : List MDrawn × MPot × Option Int) : List MDrawn × MPot × Int := match z.2.2 with
  | none => (out ++ z.1, z.2.1, 0)
  | some k => ([], MPot.mk 0 (MSpan.mk 0 0), k)
theorem runR_loop {c : MCurve} {l : List Int} (h : Valid c) (hl : c.liquid.length ≤ 140737488355328) (h64 : l.length ≤ 64) : ∀ (n i : Nat) (p : MPot) (out : List MDrawn), i ≤ l.length → l.length + 1 ≤ n + i → PotOK p → out.length = i →
    ((wormtubref04_Run_l1 FU c l n ((i : Int), p.volume, p.alcohol.lo, p.alcohol.hi, out)).bind fun lr1 => lr1.go fun x1 => wormtubref04_Run_k1 x1) = some (endR out (handV c p (l.drop i))) := by
  intro n
  induction n with
  | zero => intro i p out h1 h2; omega
  | succ n ih =>
    intro i p out h1 h2 hp ho
    rw [wormtubref04_Run_l1]
    by_cases hi : i < l.length
    · have e0 : l.drop i = l.getD i default :: l.drop (i + 1) := by
        rw [List.drop_eq_getElem_cons hi, List.getD_eq_getElem?_getD, List.getElem?_eq_getElem hi]
        rfl
      rw [cond_t (by simp; omega), grd_pos ⟨by dsimp only; omega, by dsimp only; omega⟩]
      dsimp only
      rw [Int.toNat_natCast, e0]
      generalize l.getD i default = d
      rw [show ∀ g : MDrawn × MPot × Int → Option (Lp (Int × Int × Int × List MDrawn) (List MDrawn × MPot × Int)), (wormtubref04_Draw FU c (MPot.mk p.volume (MSpan.mk p.alcohol.lo p.alcohol.hi)) d).bind g = g (outD (stepV c p d)) from fun g => bind_ok (DrawR_eq h hl hp) g]
      unfold handV
      cases e : stepV c p d with
      | error k =>
        have := stepV_err e
        rw [cond_t (by simp [outD]; omega)]
        rfl
      | ok y =>
        obtain ⟨hd, rfl⟩ := stepV_ok e
        rw [cond_f (b := ((outD (Except.ok (outV p d (drV c p d)))).2.2 != 0)) rfl, grd_pos (by omega), grd_pos (by omega)]
        have := ih (i + 1) (outV p d (drV c p d)).2 (out ++ [(outV p d (drV c p d)).1]) (by omega) (by omega) (next_ok hp hd (dr_ok h hp hd)) (by simp; omega)
        rw [show ((i + 1 : Nat) : Int) = (i : Int) + 1 by omega] at this
        refine this.trans ?_
        dsimp only
        unfold endR
        dsimp only
        cases (handV c (outV p d (drV c p d)).2 (l.drop (i + 1))).2.2 with
        | none => simp
        | some k => rfl
    · rw [cond_f (by simp; omega), List.drop_eq_nil_of_le (by omega)]
      unfold handV endR
      simp only [List.append_nil]
      rfl
theorem runR_eq (c : MCurve) (p : MPot) (l : List Int) (hl : c.liquid.length ≤ 140737488355328) : (64 < l.length → wormtubref04_Run FU c p l = some ([], MPot.mk 0 (MSpan.mk 0 0), 3)) ∧ (l.length ≤ 64 → ¬ (Valid c ∧ PotOK p) → wormtubref04_Run FU c p l = some ([], MPot.mk 0 (MSpan.mk 0 0), 1)) ∧ (l.length ≤ 64 → Valid c → PotOK p → wormtubref04_Run FU c p l = some (runV c p l)) := by
  refine ⟨fun h => ?_, fun h h2 => ?_, fun h h2 h3 => ?_⟩
  · unfold wormtubref04_Run
    rw [cond_t (by simp; omega)]
  · unfold wormtubref04_Run
    rw [cond_f (by simp; omega)]
    by_cases h1 : Valid c
    · have h3 : ¬ ((0 ≤ p.volume ∧ p.volume ≤ 1073741824) ∧ Okay 0 p.volume p.alcohol) := fun h3 => h2 ⟨h1, h3⟩
      rw [bind_ok ((Curve_eq c hl FU (by decide)).1 h1), cnn, bind_ok (Pot_eq p), decide_eq_false h3, cor_f]
    · rw [bind_ok ((Curve_eq c hl FU (by decide)).2 h1)]
      rfl
  · unfold wormtubref04_Run
    rw [cond_f (by simp; omega), bind_ok ((Curve_eq c hl FU (by decide)).1 h2), cnn, bind_ok (Pot_eq p), decide_eq_true (show (0 ≤ p.volume ∧ p.volume ≤ 1073741824) ∧ Okay 0 p.volume p.alcohol from h3), cor_t]
    have := runR_loop h2 hl h FU 0 p [] (by omega) (by show l.length + 1 ≤ 1099511627776 + 0; omega) h3 rfl
    rw [List.drop_zero] at this
    refine Eq.trans this ?_
    unfold endR runV
    cases (handV c p l).2.2 with
    | none => simp
    | some k => rfl
theorem run_both (c : MCurve) (p : MPot) (l : List Int) (hl : c.liquid.length ≤ 140737488355328) : ∃ r, runOf FU c p l = some r ∧ wormtubref04_Run FU c p l = some r ∧ r.1.length ≤ 64 := by
  by_cases h1 : l.length ≤ 64
  · by_cases h : Valid c ∧ PotOK p
    · refine ⟨_, (runOf_eq c p l hl).2.2 h1 h.1 h.2, (runR_eq c p l hl).2.2 h1 h.1 h.2, ?_⟩
      have := hand_len (hand_eq h.1 (l := l) h.2)
      unfold runV
      cases (handV c p l).2.2 with
      | none => dsimp only; omega
      | some k => simp
    · exact ⟨_, (runOf_eq c p l hl).2.1 h1 h, (runR_eq c p l hl).2.1 h1 h, by simp⟩
  · exact ⟨_, (runOf_eq c p l hl).1 (by omega), (runR_eq c p l hl).1 (by omega), by simp⟩
theorem same_loop (a : List MDrawn) (ha : a.length ≤ 1000000) : ∀ (n i : Nat), i ≤ a.length → a.length + 1 ≤ n + i → wormtubref04_SameDrawn_l1 a a n (i : Int) = some (Lp.done ()) := by
  intro n
  induction n with
  | zero => intro i h1 h2; omega
  | succ n ih =>
    intro i h1 h2
    rw [wormtubref04_SameDrawn_l1]
    by_cases hi : i < a.length
    · rw [cond_t (by simp; omega), grd_pos ⟨⟨by omega, by omega⟩, by omega, by omega⟩, cond_f (by simp only [beq_self_eq_true, Bool.and_self, Bool.not_true]), grd_pos (by omega), show ((i : Int) + 1) = ((i + 1 : Nat) : Int) by omega]
      exact ih (i + 1) (by omega) (by omega)
    · rw [cond_f (by simp; omega)]
theorem same_eq (a : List MDrawn) (ha : a.length ≤ 1000000) : wormtubref04_SameDrawn FU a a = some true := by
  unfold wormtubref04_SameDrawn
  rw [cond_f (by simp)]
  rw [show wormtubref04_SameDrawn_l1 a a FU 0 = _ from same_loop a ha FU 0 (by omega) (by show a.length + 1 ≤ 1099511627776 + 0; omega)]
  rfl
theorem vapour_both (c : MCurve) (s : MSpan) (hl : c.liquid.length ≤ 140737488355328) : ∃ r, still_Vapour FU c s = some r ∧ wormtubref04_Vapour FU c s = some r := by
  unfold still_Vapour wormtubref04_Vapour
  by_cases h : Valid c
  · rw [bind_ok ((validCurve_eq c hl FU (by decide)).1 h), bind_ok ((Curve_eq c hl FU (by decide)).1 h), cnn, bind_ok strengths_eq, cnn, bind_ok (covers_eq _ _), cnn, bind_ok (within_eq _ _ _)]
    dsimp only
    by_cases h2 : Okay 0 10000 s
    · rw [decide_eq_true h2, cor_t, cor_t]
      obtain ⟨a1, a2, a3⟩ := h2
      exact ⟨_, bind_ok (vapour_eq h (by omega) (by omega)) _, bind_ok (vapourR_eq h (by omega) (by omega)) _⟩
    · rw [decide_eq_false h2]
      exact ⟨_, rfl, rfl⟩
  · rw [bind_ok ((validCurve_eq c hl FU (by decide)).2 h), bind_ok ((Curve_eq c hl FU (by decide)).2 h)]
    exact ⟨_, rfl, rfl⟩
theorem check_both (c : MCurve) (hl : c.liquid.length ≤ 140737488355328) : ∃ r, still_Check FU c = some r ∧ wormtubref04_Check FU c = some r := by
  unfold still_Check wormtubref04_Check
  by_cases h : Valid c
  · rw [bind_ok ((validCurve_eq c hl FU (by decide)).1 h), bind_ok ((Curve_eq c hl FU (by decide)).1 h)]
    exact ⟨_, rfl, rfl⟩
  · rw [bind_ok ((validCurve_eq c hl FU (by decide)).2 h), bind_ok ((Curve_eq c hl FU (by decide)).2 h)]
    exact ⟨_, rfl, rfl⟩
end Go.Proofs.Ytnfahoomoelmcaa
