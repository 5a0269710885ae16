/- Cuts and Heart, the program's and the document's. -/
import Derived.Test.YtnfahoomoelmcaaMaFacts
namespace Go.Proofs.Ytnfahoomoelmcaa
open Go.RowKit Go.Proofs.Try

/-- what an amount can be -/
def kindV (s : MSpan) (cut fin : Int) : Int := (bif decide (cut ≤ s.hi) then 2 else 0) + (bif (decide (s.lo < cut) && decide (fin ≤ s.hi)) then 4 else 0) + (bif decide (s.lo < fin) then 8 else 0)
theorem kinds_eq (s : MSpan) (cut fin : Int) : still_kindsOf s cut fin = some (kindV s cut fin) := by
  unfold still_kindsOf still_kinds_with kindV
  generalize decide (cut ≤ s.hi) = a
  generalize (decide (s.lo < cut) && decide (fin ≤ s.hi)) = b
  generalize decide (s.lo < fin) = d
  cases a <;> cases b <;> cases d <;> rfl
/-- one round of both loops -/
def cutV (x : MDrawn) (sum fore cut fin : Int) : Int := if fore < sum then kindV (strV x.alcohol.lo x.alcohol.hi x.amount) cut fin else 1
def cutsV (fore cut fin : Int) : Int → List MDrawn → List Int
  | _, [] => []
  | sum, x :: r => cutV x (sum + x.amount) fore cut fin :: cutsV fore cut fin (sum + x.amount) r
theorem drop_getD {α : Type} [Inhabited α] {l : List α} {i : Nat} (h : i < l.length) : l.drop i = l.getD i default :: l.drop (i + 1) := by
  rw [List.drop_eq_getElem_cons h, List.getD_eq_getElem?_getD, List.getElem?_eq_getElem h]
  rfl
theorem cuts_loop {xs : List MDrawn} {l : List Int} {q : MPot} (hg : Goods xs l) (h64 : l.length ≤ 64) (fore cut fin : Int) : ∀ (n i : Nat) (sum : Int) (out : List Int), i ≤ l.length → l.length + 1 ≤ n + i → out.length = i → 0 ≤ sum ∧ sum ≤ i * 1073741824 →
    still_Cuts_l1 fore cut fin (xs, q, 0) n (sum, (i : Int), out) = some (Lp.done (out ++ cutsV fore cut fin sum (xs.drop i))) := by
  intro n
  induction n with
  | zero => intro i sum out h1 h2; omega
  | succ n ih =>
    intro i sum out h1 h2 ho hs
    have hlen := hg.len
    rw [still_Cuts_l1]
    dsimp only
    by_cases hi : i < l.length
    · obtain ⟨x1, x2, x3, x4, x5, x6⟩ := hg.all i hi
      rw [cond_t (by simp; omega), grd_pos ⟨by omega, by omega⟩, Int.toNat_natCast, grd_pos (by omega), drop_getD (by omega)]
      generalize xs.getD i default = x at *
      generalize l.getD i default = d at *
      have e1 : ((i : Int) + 1) = ((i + 1 : Nat) : Int) := by omega
      have e2 : ((i + 1 : Nat) : Int) * 1073741824 = (i : Int) * 1073741824 + 1073741824 := by omega
      unfold cutsV cutV
      by_cases hf : fore < sum + x.amount
      · rw [cond_t (by simpa using hf), if_pos hf, bind_ok (strength_eq (lo := x.alcohol.lo) (hi := x.alcohol.hi) (n := x.amount) (by omega) (by omega) (by omega)).1, bind_ok (kinds_eq _ _ _), grd_pos (by omega), grd_pos (by omega), e1]
        rw [ih (i + 1) _ _ (by omega) (by omega) (by simp; omega) (by omega)]
        simp
      · rw [cond_f (by simpa using hf), if_neg hf, grd_pos (by omega), grd_pos (by omega), e1]
        rw [ih (i + 1) _ _ (by omega) (by omega) (by simp; omega) (by omega)]
        simp
    · rw [cond_f (by simp; omega), List.drop_eq_nil_of_le (by omega)]
      unfold cutsV
      simp
theorem cutsR_loop {xs : List MDrawn} {l : List Int} {q : MPot} (hg : Goods xs l) (h64 : l.length ≤ 64) (fore cut fin : Int) : ∀ (n i : Nat) (sum : Int) (out : List Int), i ≤ l.length → l.length + 1 ≤ n + i → out.length = i → 0 ≤ sum ∧ sum ≤ i * 1073741824 →
    wormtubref04_Cuts_l1 l fore cut fin (xs, q, 0) n (sum, (i : Int), out) = some (Lp.done (out ++ cutsV fore cut fin sum (xs.drop i))) := by
  intro n
  induction n with
  | zero => intro i sum out h1 h2; omega
  | succ n ih =>
    intro i sum out h1 h2 ho hs
    have hlen := hg.len
    rw [wormtubref04_Cuts_l1]
    dsimp only
    by_cases hi : i < l.length
    · obtain ⟨x1, x2, x3, x4, x5, x6⟩ := hg.all i hi
      rw [cond_t (by simp; omega), Int.toNat_natCast, grd_pos ⟨⟨by omega, by omega⟩, by omega⟩, grd_pos ⟨by omega, by omega⟩, drop_getD (by omega)]
      generalize xs.getD i default = x at *
      generalize l.getD i default = d at *
      subst x1
      have e1 : ((i : Int) + 1) = ((i + 1 : Nat) : Int) := by omega
      have e2 : ((i + 1 : Nat) : Int) * 1073741824 = (i : Int) * 1073741824 + 1073741824 := by omega
      rw [bind_ok (strength_eq (lo := x.alcohol.lo) (hi := x.alcohol.hi) (n := x.amount) (by omega) (by omega) (by omega)).2]
      unfold cutsV cutV kindV
      generalize strV x.alcohol.lo x.alcohol.hi x.amount = s
      have key : ∀ (b1 b2 b3 : Bool) (g : Int → Option (Lp (List Int) (List Int × Int))),
          ((bif b1 then grd (InI64 (0 + 2)) (some (0 + 2)) else some 0 : Option Int).bind fun j1 => (bif b2 then grd (InI64 (j1 + 4)) (some (j1 + 4)) else some j1 : Option Int).bind fun j2 => (bif b3 then grd (InI64 (j2 + 8)) (some (j2 + 8)) else some j2 : Option Int).bind g) = g ((bif b1 then 2 else 0) + (bif b2 then 4 else 0) + (bif b3 then 8 else 0)) := by
        intro b1 b2 b3 g
        cases b1 <;> cases b2 <;> cases b3 <;> rfl
      rw [key]
      by_cases hf : fore < sum + x.amount
      · rw [cond_f (by simp; omega), if_pos hf, grd_pos (by omega), grd_pos (by omega), e1]
        rw [ih (i + 1) _ _ (by omega) (by omega) (by simp; omega) (by omega)]
        simp
      · rw [cond_t (by simp; omega), if_neg hf, grd_pos (by omega), grd_pos (by omega), e1]
        rw [ih (i + 1) _ _ (by omega) (by omega) (by simp; omega) (by omega)]
        simp
    · rw [cond_f (by simp; omega), List.drop_eq_nil_of_le (by omega)]
      unfold cutsV
      simp
theorem cutsV_len (fore cut fin : Int) : ∀ (xs : List MDrawn) (s : Int), (cutsV fore cut fin s xs).length = xs.length
  | [], _ => rfl
  | x :: r, s => by unfold cutsV; simp [cutsV_len fore cut fin r]
/-- how Cuts ends -/
theorem cuts_both (c : MCurve) (p : MPot) (l : List Int) (fore cut fin : Int) (hl : c.liquid.length ≤ 140737488355328) : ∃ k r x, RunEnd c p l k r ∧ runOf FU c p l = some r ∧ still_Cuts FU c p l fore cut fin = some x ∧ wormtubref04_Cuts FU c p l fore cut fin = some x ∧
    ((x.2 ≠ 0 ∧ x.1 = []) ∨ (r.2.2 = 0 ∧ Goods r.1 l ∧ l.length ≤ 64 ∧ 0 ≤ fin ∧ fin ≤ cut ∧ cut ≤ 10000 ∧ x = (cutsV fore cut fin 0 r.1, 0))) := by
  obtain ⟨k, r, ⟨hc, hcR⟩, ⟨hr, hrR⟩, hE⟩ := run_end c p l hl
  unfold still_Cuts wormtubref04_Cuts
  rw [bind_ok hc, bind_ok hcR]
  by_cases hk : k = 0
  case neg =>
    rw [cond_t (by simpa using hk), cond_t (by simpa using hk)]
    exact ⟨k, r, _, hE, hr, rfl, rfl, .inl ⟨hk, rfl⟩⟩
  subst hk
  rw [cn0, cn0, bind_ok (in_eq _ _ _)]
  have hr' : runOf FU c (MPot.mk p.volume (MSpan.mk p.alcohol.lo p.alcohol.hi)) l = some r := hr
  have hrR' : wormtubref04_Run FU c (MPot.mk p.volume (MSpan.mk p.alcohol.lo p.alcohol.hi)) l = some r := hrR
  by_cases h1 : (0 ≤ fore ∧ fore ≤ 1073741824) ∧ (0 ≤ fin ∧ fin ≤ cut) ∧ cut ≤ 10000
  case neg =>
    refine ⟨0, r, ([], 2), hE, hr, ?_, ?_, .inl ⟨by decide, rfl⟩⟩
    · rw [cond_t (by simp only [Bool.or_eq_true, decide_eq_true_eq]; omega)]
    · by_cases h2 : 0 ≤ fore ∧ fore ≤ 1073741824
      · rw [decide_eq_true h2, cnn, bind_ok (in_eq _ _ _)]
        rw [cond_t (by simp only [Bool.not_true, Bool.false_or, Bool.or_eq_true, Bool.not_eq_true', decide_eq_false_iff_not, decide_eq_true_eq]; omega)]
      · rw [decide_eq_false h2]
        rfl
  rw [cond_f (by refine Bool.eq_false_iff.2 fun h => ?_; simp only [Bool.or_eq_true, decide_eq_true_eq] at h; omega), decide_eq_true h1.1, cnn, bind_ok (in_eq _ _ _), decide_eq_true h1.2.1]
  rw [cond_f (show ((!true || !true) || decide (10000 < cut)) = false by rw [decide_eq_false (by omega)]; rfl), bind_ok hr', bind_ok hrR']
  cases hE with
  | early k hk => omega
  | died h hp h64 k hk hn =>
    rw [cond_t (by simp only [bne_iff_ne, ne_eq]; omega), cond_t (by simp only [bne_iff_ne, ne_eq]; omega)]
    exact ⟨0, _, _, .died h hp h64 k hk hn, hr, rfl, rfl, .inl ⟨by show k ≠ 0; omega, rfl⟩⟩
  | good h hp h64 hn hg hq =>
    refine ⟨0, _, (cutsV fore cut fin 0 (handV c p l).1, 0), .good h hp h64 hn hg hq, hr, (cn0 _ _).trans ?_, (cn0 _ _).trans ?_, .inr ⟨rfl, hg, h64, h1.2.1.1, h1.2.1.2, h1.2.2, rfl⟩⟩
    · rw [show still_Cuts_l1 fore cut fin ((handV c p l).1, (handV c p l).2.1, 0) FU (0, 0, []) = _ from cuts_loop hg h64 fore cut fin FU 0 0 [] (by omega) (by show l.length + 1 ≤ 1099511627776 + 0; omega) rfl (by omega)]
      rfl
    · rw [show wormtubref04_Cuts_l1 l fore cut fin ((handV c p l).1, (handV c p l).2.1, 0) FU (0, 0, []) = _ from cutsR_loop hg h64 fore cut fin FU 0 0 [] (by omega) (by show l.length + 1 ≤ 1099511627776 + 0; omega) rfl (by omega)]
      rfl
end Go.Proofs.Ytnfahoomoelmcaa
