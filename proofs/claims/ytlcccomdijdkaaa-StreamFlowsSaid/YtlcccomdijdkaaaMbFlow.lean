/- Down all the points: both sides, in closed form. -/
import Derived.Test.YtlcccomdijdkaaaMbStep
namespace Go.Proofs.Ytlcccomdijdkaaa
open Go.RowKit Go.Proofs.Try

/-- what stops the walk at a point: 0 is nothing -/
def stepS (c : MWater) (p : MPoint) : Int := if ¬ okP p then 1 else if (bh c p).flow.lo < 1 then 10 else if 1073741824 < (bh c p).flow.hi ∨ 100000 < (bh c p).warm.hi then 12 else 0
def flowS : MWater → List MPoint → List MWater × Int
  | _, [] => ([], 0)
  | c, p :: r => if stepS c p = 0 then (bh c p :: (flowS (bh c p) r).1, (flowS (bh c p) r).2) else ([], stepS c p)
theorem flowS_cons_ok {c : MWater} {p : MPoint} {r : List MPoint} (h : stepS c p = 0) : flowS c (p :: r) = (bh c p :: (flowS (bh c p) r).1, (flowS (bh c p) r).2) := by rw [flowS, if_pos h]
theorem flowS_cons_no {c : MWater} {p : MPoint} {r : List MPoint} (h : ¬ stepS c p = 0) : flowS c (p :: r) = ([], stepS c p) := by rw [flowS, if_neg h]
theorem flowS_len : ∀ (l : List MPoint) (c : MWater), (flowS c l).1.length ≤ l.length ∧ ((flowS c l).2 = 0 → (flowS c l).1.length = l.length)
  | [], _ => ⟨Nat.le_refl _, fun _ => rfl⟩
  | p :: r, c => by
    by_cases h : stepS c p = 0
    · rw [flowS_cons_ok h]
      have := flowS_len r (bh c p)
      exact ⟨by simp only [List.length_cons]; omega, fun h2 => by simp only [List.length_cons]; have := this.2 h2; omega⟩
    · rw [flowS_cons_no h]
      exact ⟨by simp, fun h2 => absurd h2 h⟩
theorem stepS_ok {c : MWater} {p : MPoint} (hc : okW c) (h : stepS c p = 0) : okP p ∧ okW (bh c p) := by
  unfold stepS at h
  by_cases hp : okP p
  · rw [if_neg (by simpa using hp)] at h
    have := bh_ok hc hp
    by_cases h1 : (bh c p).flow.lo < 1
    · rw [if_pos h1] at h; cases h
    · rw [if_neg h1] at h
      by_cases h2 : 1073741824 < (bh c p).flow.hi ∨ 100000 < (bh c p).warm.hi
      · rw [if_pos h2] at h; cases h
      · exact ⟨hp, ⟨by omega, by omega, by omega⟩, ⟨by omega, by omega, by omega⟩⟩
  · rw [if_pos hp] at h; cases h
/-- what a pass comes to -/
def passS (c : MWater) (pre : List MWater) (p : MPoint) : MWater × List MWater × Int :=
  if ¬ okP p then (c, pre, 1) else (bh c p, if stepS c p = 0 then pre ++ [bh c p] else pre, stepS c p)
theorem tail_eq {c : MWater} {p : MPoint} {pre : List MWater} (hp : okP p) (hl : pre.length + 1 ≤ 1000000) :
    (bif decide ((bh c p).flow.lo < 1) then some ((MWater.mk (MSpan.mk (bh c p).flow.lo (bh c p).flow.hi) (MSpan.mk (bh c p).warm.lo (bh c p).warm.hi)), pre, (10 : Int)) else
      ((bif (decide (1073741824 < (bh c p).flow.hi) || decide (100000 < (bh c p).warm.hi)) then some ((MWater.mk (MSpan.mk (bh c p).flow.lo (bh c p).flow.hi) (MSpan.mk (bh c p).warm.lo (bh c p).warm.hi)), pre, 12) else
        (grd ((pre.length + 1 ≤ 1000000)) <| some ((MWater.mk (MSpan.mk (bh c p).flow.lo (bh c p).flow.hi) (MSpan.mk (bh c p).warm.lo (bh c p).warm.hi)), (pre ++ [(MWater.mk (MSpan.mk (bh c p).flow.lo (bh c p).flow.hi) (MSpan.mk (bh c p).warm.lo (bh c p).warm.hi))]), 0))))) = some (passS c pre p) := by
  have e : stepS c p = if (bh c p).flow.lo < 1 then 10 else if 1073741824 < (bh c p).flow.hi ∨ 100000 < (bh c p).warm.hi then 12 else 0 := by
    unfold stepS
    rw [if_neg (by simpa using hp)]
  unfold passS
  rw [if_neg (by simpa using hp), e]
  by_cases h1 : (bh c p).flow.lo < 1
  · rw [cond_t (by simpa using h1), if_pos h1, if_neg (by decide)]
  · rw [cond_f (by simpa using h1), if_neg h1]
    by_cases h2 : 1073741824 < (bh c p).flow.hi ∨ 100000 < (bh c p).warm.hi
    · rw [cond_t (by simpa using h2), if_pos h2, if_neg (by decide)]
    · rw [cond_f (by simpa using h2), if_neg h2, grd_pos hl, if_pos rfl]
theorem not_dec {p : Prop} [Decidable p] (h : ¬ p) : (!decide p) = true := by simp [h]
theorem passS_ok {c : MWater} {pre : List MWater} {p : MPoint} (hp : okP p) (hs : stepS c p = 0) : passS c pre p = (bh c p, pre ++ [bh c p], 0) := by
  unfold passS
  rw [if_neg (by simpa using hp), if_pos hs, hs]
theorem passS_no {c : MWater} {pre : List MWater} {p : MPoint} (hs : ¬ stepS c p = 0) : (passS c pre p).2 = (pre, stepS c p) := by
  unfold passS
  by_cases hp : okP p
  · rw [if_neg (by simpa using hp), if_neg hs]
  · rw [if_pos hp]
    unfold stepS
    rw [if_pos hp]
theorem pass_eq {c : MWater} {pre : List MWater} {p : MPoint} (hc : okW c) (hl : pre.length + 1 ≤ 1000000) : passM c pre p = some (passS c pre p) := by
  have hC := hc
  obtain ⟨⟨f1, f2, f3⟩, ⟨t1, t2, t3⟩⟩ := hc
  unfold passM
  by_cases hp : okP p
  · have hP := hp
    have T := tail_eq (c := c) (pre := pre) hp hl
    unfold okP at hp
    split at hp <;> rename_i k0
    · rw [if_pos k0]
      have W := joinWts hC hp.1
      have hb : stream_join_behind (MJoin.mk (MSpan.mk p.flow.lo p.flow.hi) (MSpan.mk p.warm.lo p.warm.hi)) (MWater.mk (MSpan.mk c.flow.lo c.flow.hi) (MSpan.mk c.warm.lo c.warm.hi)) = some (bh c p) := by
        obtain ⟨⟨a1, a2, a3⟩, b⟩ := hp
        unfold stream_join_behind
        simp only
        rw [grd_pos ⟨by omega, by omega⟩, grd_pos (by omega), grd_pos (by omega), bind_ok (toward_eq W ⟨t1, t2, t3⟩ b)]
        unfold bh
        rw [if_pos k0]
      unfold pass0
      rw [bind_ok (joinValid_eq _), cond_f (by simpa using hp), bind_ok hb]
      exact T
    rw [if_neg k0]
    split at hp <;> rename_i k1
    · rw [if_pos k1]
      have hb : stream_draw_behind (MDraw.mk (MSpan.mk p.flow.lo p.flow.hi)) (MWater.mk (MSpan.mk c.flow.lo c.flow.hi) (MSpan.mk c.warm.lo c.warm.hi)) = some (bh c p) := by
        obtain ⟨a1, a2, a3⟩ := hp
        unfold stream_draw_behind
        simp only
        rw [grd_pos ⟨by omega, by omega⟩]
        unfold bh
        rw [if_neg k0, if_pos k1]
      unfold pass1
      rw [bind_ok (drawValid_eq _), cond_f (by simpa using hp), bind_ok hb]
      exact T
    rw [if_neg k1]
    split at hp <;> rename_i k2
    · rw [if_pos k2]
      have hb : stream_add_behind (MAdd.mk (MSpan.mk p.heat.lo p.heat.hi)) (MWater.mk (MSpan.mk c.flow.lo c.flow.hi) (MSpan.mk c.warm.lo c.warm.hi)) = some (bh c p) := by
        obtain ⟨a1, a2, a3⟩ := hp
        have e1 := div_in a1 (show 0 < c.flow.hi by omega)
        have e3 : cl p.heat.hi c.flow.lo ≤ p.heat.hi := cl_of (by omega) (by have := Int.mul_le_mul_of_nonneg_left f1 (show 0 ≤ p.heat.hi by omega); omega)
        have e4 : 0 ≤ cl p.heat.hi c.flow.lo := Int.ediv_nonneg (by omega) (by omega)
        unfold stream_add_behind
        rw [bind_ok (down_eq (by simp only; omega) (by simp only; omega) (by simp only; omega))]
        simp only
        rw [grd_pos (by omega), bind_ok (up_eq (by omega) (by omega) (by omega) (by omega)), grd_pos (by omega)]
        unfold bh
        rw [if_neg k0, if_neg k1, if_pos k2]
      unfold pass2
      rw [bind_ok (addValid_eq _), cond_f (by simpa using hp), bind_ok hb]
      exact T
    rw [if_neg k2]
    split at hp <;> rename_i k3
    · rw [if_pos k3]
      have W := airWts hp.2
      have hb : stream_air_behind (MAir.mk (MSpan.mk p.warm.lo p.warm.hi) (MSpan.mk p.share.lo p.share.hi)) (MWater.mk (MSpan.mk c.flow.lo c.flow.hi) (MSpan.mk c.warm.lo c.warm.hi)) = some (bh c p) := by
        have := toward_eq (s := ⟨c.warm.lo, c.warm.hi⟩) (o := ⟨p.warm.lo, p.warm.hi⟩) W ⟨t1, t2, t3⟩ hp.1
        rw [show 10000 - p.share.lo + p.share.lo = 10000 by omega, show 10000 - p.share.hi + p.share.hi = 10000 by omega] at this
        unfold stream_air_behind
        simp only
        rw [bind_ok this]
        unfold bh
        rw [if_neg k0, if_neg k1, if_neg k2]
      unfold pass3
      rw [bind_ok (airValid_eq _), cond_f (by simpa using hp), bind_ok hb]
      exact T
    · exact hp.elim
  · unfold passS
    rw [if_pos hp]
    unfold okP at hp
    by_cases k0 : p.kind = 0
    · rw [if_pos k0] at hp ⊢
      unfold pass0
      rw [bind_ok (joinValid_eq _), cond_t (not_dec hp)]
    rw [if_neg k0] at hp ⊢
    by_cases k1 : p.kind = 1
    · rw [if_pos k1] at hp ⊢
      unfold pass1
      rw [bind_ok (drawValid_eq _), cond_t (by simpa using hp)]
    rw [if_neg k1] at hp ⊢
    by_cases k2 : p.kind = 2
    · rw [if_pos k2] at hp ⊢
      unfold pass2
      rw [bind_ok (addValid_eq _), cond_t (by simpa using hp)]
    rw [if_neg k2] at hp ⊢
    by_cases k3 : p.kind = 3
    · rw [if_pos k3] at hp ⊢
      unfold pass3
      rw [bind_ok (airValid_eq _), cond_t (not_dec hp)]
    rw [if_neg k3]
    unfold passX pointOfX
    rw [cond_f (by simpa using k0), cond_f (by simpa using k1), cond_f (by simpa using k2), cond_f (by simpa using k3)]
    rfl
theorem follow_eq : ∀ (l : List MPoint) (c : MWater) (pre : List MWater), okW c → pre.length + l.length ≤ 1000000 → followM c pre l = some (pre ++ (flowS c l).1, (flowS c l).2)
  | [], c, pre, _, _ => by rw [followM, flowS]; simp
  | p :: r, c, pre, hc, hl => by
    simp only [List.length_cons] at hl
    rw [followM, bind_ok (pass_eq hc (by omega))]
    by_cases hs : stepS c p = 0
    · obtain ⟨hp, hb⟩ := stepS_ok hc hs
      rw [passS_ok hp hs, flowS_cons_ok hs]
      simp only [if_true]
      rw [follow_eq r (bh c p) (pre ++ [bh c p]) hb (by simp only [List.length_append, List.length_cons, List.length_nil]; omega)]
      simp
    · rw [flowS_cons_no hs]
      simp only [passS_no hs, hs, if_false, List.append_nil]
def FlowS (first : MWater) (l : List MPoint) : List MWater × Int × Int :=
  if ¬ okW first then ([], 0, 1) else if 64 < l.length then ([], 0, 3) else
  if (flowS first l).2 ≠ 0 then ([], (flowS first l).1.length, (flowS first l).2) else ((flowS first l).1, (flowS first l).1.length, 0)
theorem Flow_eq (first : MWater) (l : List MPoint) : stream_Flow first l = some (FlowS first l) := by
  unfold stream_Flow FlowS
  rw [bind_ok (validWater_eq _)]
  by_cases h : okW first
  · rw [cond_f (by simpa using h), if_neg (by simpa using h)]
    by_cases h1 : 64 < l.length
    · rw [cond_t (by simp; omega), if_pos h1]
    · rw [cond_f (by simp; omega), if_neg h1, grd_pos (by omega), bind_ok (follow_eq l first [] h (by simp only [List.length_nil]; omega))]
      simp only [List.nil_append]
      by_cases h2 : (flowS first l).2 = 0
      · rw [cond_f (by simpa using h2), if_neg (by simpa using h2)]
      · rw [cond_t (by simpa using h2), if_pos h2]
  · rw [cond_t (by simpa using h), if_pos h]
/-- the document's side -/
theorem refLoop_eq (l : List MPoint) (hl : l.length ≤ 64) : ∀ (n i : Nat) (c : MWater) (ws : List MWater), okW c → i ≤ l.length → l.length < i + n → ws.length = i →
    wormtubref05_flow_l1 l n ((i : Int), c.flow.lo, c.flow.hi, c.warm.lo, c.warm.hi, ws) = some (if (flowS c (l.drop i)).2 ≠ 0 then Lp.ret ([], ((i + (flowS c (l.drop i)).1.length : Nat) : Int), (flowS c (l.drop i)).2) else Lp.done (ws ++ (flowS c (l.drop i)).1))
  | 0, i, c, ws, hc, hi, hn, hw => by omega
  | n + 1, i, c, ws, hc, hi, hn, hw => by
    rw [wormtubref05_flow_l1]
    simp only
    by_cases hlt : i < l.length
    · rw [cond_t (by simpa using hlt), grd_pos ⟨by omega, by omega⟩]
      have hd : l.drop i = l.getD i default :: l.drop (i + 1) := by
        rw [List.drop_eq_getElem_cons hlt]
        simp [List.getD, hlt]
      rw [hd]
      simp only [Int.toNat_natCast]
      generalize l.getD i default = p
      rw [bind_ok (refPoint_eq _)]
      by_cases hp : okP p
      · rw [cond_f (by simpa using hp), bind_ok (refBehind_eq hc hp)]
        have e : stepS c p = if (bh c p).flow.lo < 1 then 10 else if 1073741824 < (bh c p).flow.hi ∨ 100000 < (bh c p).warm.hi then 12 else 0 := by
          unfold stepS
          rw [if_neg (by simpa using hp)]
        by_cases h1 : (bh c p).flow.lo < 1
        · rw [if_pos h1] at e
          rw [cond_t (by simpa using h1), flowS_cons_no (by rw [e]; decide), e]
          rfl
        · rw [if_neg h1] at e
          by_cases h2 : 1073741824 < (bh c p).flow.hi ∨ 100000 < (bh c p).warm.hi
          · rw [if_pos h2] at e
            rw [cond_f (by simpa using h1), cond_t (by simpa using h2), flowS_cons_no (by rw [e]; decide), e]
            rfl
          · rw [if_neg h2] at e
            rw [cond_f (by simpa using h1), cond_f (by simpa using h2), flowS_cons_ok e, grd_pos (by omega), grd_pos (by omega)]
            have ih := refLoop_eq l hl n (i + 1) (bh c p) (ws ++ [bh c p]) (stepS_ok hc e).2 (by omega) (by omega) (by simp [hw])
            rw [show (((i + 1 : Nat)) : Int) = (i : Int) + 1 by omega] at ih
            refine Eq.trans ih ?_
            simp only [List.length_cons, List.append_assoc, List.singleton_append]
            split <;> simp <;> omega
      · have e : stepS c p = 1 := by unfold stepS; rw [if_pos hp]
        rw [cond_t (by simpa using hp), flowS_cons_no (by rw [e]; decide), e]
        rfl
    · rw [cond_f (by simpa using hlt)]
      have : l.drop i = [] := List.drop_eq_nil_of_le (by omega)
      rw [this, flowS]
      simp
theorem refFlow_eq {fuel : Nat} (hf : 65 < fuel) (first : MWater) (l : List MPoint) : wormtubref05_Flow fuel first l = some (FlowS first l) := by
  unfold wormtubref05_Flow FlowS
  rw [bind_ok (refWater_eq _)]
  by_cases h : okW first
  · rw [cond_f (by simpa using h), if_neg (by simpa using h)]
    by_cases h1 : 64 < l.length
    · rw [cond_t (by simp; omega), if_pos h1]
    · rw [cond_f (by simp; omega), if_neg h1]
      unfold wormtubref05_flow
      have hr : wormtubref05_flow_l1 l fuel (0, first.flow.lo, first.flow.hi, first.warm.lo, first.warm.hi, []) = _ := refLoop_eq l (by omega) fuel 0 first [] h (by omega) (by omega) rfl
      rw [List.drop_zero] at hr
      simp only
      rw [hr]
      simp only [Option.bind_some]
      have hlen := flowS_len l first
      by_cases h2 : (flowS first l).2 = 0
      · rw [if_neg (by simpa using h2), if_neg (by simpa using h2)]
        simp [Lp.go, wormtubref05_flow_k1, hlen.2 h2]
      · rw [if_pos h2, if_pos h2]
        simp [Lp.go]
  · rw [cond_t (by simpa using h), if_pos h]
end Go.Proofs.Ytlcccomdijdkaaa
