/- StreamFlows: both sides agree, and the sample does, too. -/
import Derived.Test.YtlcccomdijdkaaaMbFlow
import Derived.Test.YtlcccomdijdkaaaSyL1
namespace Go.Proofs.Ytlcccomdijdkaaa
open Go.RowKit Go.Proofs.Try

theorem sameLoop_eq (a : List MWater) (ha : a.length ≤ 1000000) : ∀ (n i : Nat), i ≤ a.length → a.length < i + n → wormtubref05_Same_l1 a a n (i : Int) = some (Lp.done ())
  | 0, i, h1, h2 => by omega
  | n + 1, i, h1, h2 => by
    rw [wormtubref05_Same_l1]
    by_cases hlt : i < a.length
    · rw [cond_t (by simpa using hlt), grd_pos ⟨by omega, by omega⟩, cond_f (by simp), grd_pos (by omega)]
      exact sameLoop_eq a ha n (i + 1) (by omega) (by omega)
    · rw [cond_f (by simpa using hlt)]
theorem same_eq {fuel : Nat} {a : List MWater} (ha : a.length ≤ 1000000) (hf : 1000000 < fuel) : wormtubref05_Same fuel a a = some true := by
  unfold wormtubref05_Same
  have := sameLoop_eq a ha fuel 0 (by omega) (by omega)
  simp only [Int.ofNat_zero] at this
  rw [cond_f (by simp)]
  have h : wormtubref05_Same_l1 a a fuel 0 = some (Lp.done ()) := this
  rw [bind_ok h]
  rfl
theorem intsLoop_eq (a : List Int) (ha : a.length ≤ 1000000) : ∀ (n i : Nat), i ≤ a.length → a.length < i + n → wormtubref05_Ints_l1 a a n (i : Int) = some (Lp.done ())
  | 0, i, h1, h2 => by omega
  | n + 1, i, h1, h2 => by
    rw [wormtubref05_Ints_l1]
    by_cases hlt : i < a.length
    · rw [cond_t (by simpa using hlt), grd_pos ⟨by omega, by omega⟩, cond_f (by simp), grd_pos (by omega)]
      exact intsLoop_eq a ha n (i + 1) (by omega) (by omega)
    · rw [cond_f (by simpa using hlt)]
theorem ints_eq {fuel : Nat} {a : List Int} (ha : a.length ≤ 1000000) (hf : 1000000 < fuel) : wormtubref05_Ints fuel a a = some true := by
  unfold wormtubref05_Ints
  rw [cond_f (by simp)]
  have h : wormtubref05_Ints_l1 a a fuel 0 = some (Lp.done ()) := intsLoop_eq a ha fuel 0 (by omega) (by omega)
  rw [bind_ok h]
  rfl
/-- the points that may be, and that can be, too warm -/
def warmS (limit : Int) : Nat → List MWater → List Int × List Int
  | _, [] => ([], [])
  | i, w :: r => (if limit < w.warm.lo then (i : Int) :: (warmS limit (i + 1) r).1 else (warmS limit (i + 1) r).1, if limit < w.warm.hi then (i : Int) :: (warmS limit (i + 1) r).2 else (warmS limit (i + 1) r).2)
theorem warmS_len (limit : Int) : ∀ (l : List MWater) (i : Nat), (warmS limit i l).1.length ≤ l.length ∧ (warmS limit i l).2.length ≤ l.length
  | [], _ => ⟨Nat.le_refl _, Nat.le_refl _⟩
  | w :: r, i => by
    have := warmS_len limit r (i + 1)
    rw [warmS]
    simp only [List.length_cons]
    constructor <;> split <;> (try simp only [List.length_cons]) <;> omega
theorem warmLoop_eq (limit : Int) (z : List MWater × Int × Int) (hl : z.1.length ≤ 64) : ∀ (n i : Nat) (A B : List Int), i ≤ z.1.length → z.1.length < i + n → A.length ≤ i → B.length ≤ i →
    stream_Warm_l1 limit z n ((i : Int), A, B) = some (Lp.done (A ++ (warmS limit i (z.1.drop i)).1, B ++ (warmS limit i (z.1.drop i)).2))
  | 0, i, A, B, hi, hn, hA, hB => by omega
  | n + 1, i, A, B, hi, hn, hA, hB => by
    rw [stream_Warm_l1]
    simp only
    by_cases hlt : i < z.1.length
    · have hd : z.1.drop i = z.1.getD i default :: z.1.drop (i + 1) := by
        rw [List.drop_eq_getElem_cons hlt]
        simp [List.getD, hlt]
      rw [cond_t (by simpa using hlt), grd_pos ⟨by omega, by omega⟩, hd, warmS]
      simp only [Int.toNat_natCast]
      clear hd
      obtain ⟨w, hw⟩ : ∃ w, w = z.1.getD i default := ⟨_, rfl⟩
      simp only [← hw]
      clear hw
      have e : ((i + 1 : Nat) : Int) = (i : Int) + 1 := by omega
      by_cases h1 : limit < w.warm.lo
      · rw [cond_t (by simpa using h1), grd_pos (by omega), Option.bind_some]
        simp only [h1, if_true]
        by_cases h2 : limit < w.warm.hi
        · rw [cond_t (by simpa using h2), grd_pos (by omega), grd_pos (by omega), ← e, warmLoop_eq limit z hl n (i + 1) _ _ (by omega) (by omega) (by simp; omega) (by simp; omega)]
          simp [h2]
        · rw [cond_f (by simpa using h2), grd_pos (by omega), ← e, warmLoop_eq limit z hl n (i + 1) _ _ (by omega) (by omega) (by simp; omega) (by omega)]
          simp [h2]
      · rw [cond_f (by simpa using h1), Option.bind_some]
        simp only [h1, if_false]
        by_cases h2 : limit < w.warm.hi
        · rw [cond_t (by simpa using h2), grd_pos (by omega), grd_pos (by omega), ← e, warmLoop_eq limit z hl n (i + 1) _ _ (by omega) (by omega) (by omega) (by simp; omega)]
          simp [h2]
        · rw [cond_f (by simpa using h2), grd_pos (by omega), ← e, warmLoop_eq limit z hl n (i + 1) _ _ (by omega) (by omega) (by omega) (by omega)]
          simp [h2]
    · have : z.1.drop i = [] := List.drop_eq_nil_of_le (by omega)
      rw [cond_f (by simpa using hlt), this, warmS]
      simp
theorem refWarmLoop (limit : Int) (z : List MWater × Int × Int) : ∀ (n : Nat) (b : Int × List Int × List Int), wormtubref05_Warm_l1 limit z n b = stream_Warm_l1 limit z n b
  | 0, _ => rfl
  | n + 1, b => by
    rw [wormtubref05_Warm_l1, stream_Warm_l1]
    simp only [refWarmLoop limit z n]
def WarmS (first : MWater) (l : List MPoint) (limit : Int) : List Int × List Int × Int :=
  if ¬ okW first then ([], [], 1) else if ¬ (0 ≤ limit ∧ limit ≤ 100000) then ([], [], 2) else
  if (FlowS first l).2.2 ≠ 0 then ([], [], (FlowS first l).2.2) else ((warmS limit 0 (FlowS first l).1).1, (warmS limit 0 (FlowS first l).1).2, 0)
theorem FlowS_len (first : MWater) (l : List MPoint) : (FlowS first l).1.length ≤ 64 := by
  unfold FlowS
  split
  · simp
  split
  · simp
  have := flowS_len l first
  split
  · simp
  · simp only; omega
theorem Warm_eq {fuel : Nat} (hf : 65 < fuel) (first : MWater) (l : List MPoint) (limit : Int) : stream_Warm fuel first l limit = some (WarmS first l limit) := by
  unfold stream_Warm WarmS
  rw [bind_ok (validWater_eq _)]
  by_cases h : okW first
  · rw [cond_f (by simpa using h), if_neg (by simpa using h)]
    have hv : stream_validLimit limit = some (decide (0 ≤ limit ∧ limit ≤ 100000)) := by rw [stream_validLimit]; simp
    rw [bind_ok hv]
    by_cases h1 : 0 ≤ limit ∧ limit ≤ 100000
    · rw [cond_f (by simpa using h1), if_neg (by simpa using h1), bind_ok (Flow_eq _ _)]
      have hl := FlowS_len first l
      by_cases h2 : (FlowS first l).2.2 = 0
      · rw [cond_f (by simpa using h2), if_neg (by simpa using h2)]
        have := warmLoop_eq limit (FlowS first l) hl fuel 0 [] [] (by omega) (by omega) (by simp) (by simp)
        rw [List.drop_zero, List.nil_append, List.nil_append] at this
        have h3 : stream_Warm_l1 limit (FlowS first l) fuel (0, [], []) = _ := this
        rw [bind_ok h3]
        rfl
      · rw [cond_t (by simpa using h2), if_pos h2]
    · rw [cond_t (not_dec h1), if_pos h1]
  · rw [cond_t (by simpa using h), if_pos h]
theorem refWarm_eq {fuel : Nat} (hf : 65 < fuel) (first : MWater) (l : List MPoint) (limit : Int) : wormtubref05_Warm fuel first l limit = some (WarmS first l limit) := by
  rw [← Warm_eq hf]
  unfold stream_Warm wormtubref05_Warm
  rw [bind_ok (validWater_eq _), bind_ok (refWater_eq _)]
  have hv : stream_validLimit limit = some (decide (0 ≤ limit ∧ limit ≤ 100000)) := by rw [stream_validLimit]; simp
  rw [hv, in_eq]
  simp only [Flow_eq, refFlow_eq hf, refWarmLoop]
  rfl
theorem WarmS_len (first : MWater) (l : List MPoint) (limit : Int) : (WarmS first l limit).1.length ≤ 64 ∧ (WarmS first l limit).2.1.length ≤ 64 := by
  unfold WarmS
  split
  · simp
  split
  · simp
  have h := FlowS_len first l
  have := warmS_len limit (FlowS first l).1 0
  split
  · simp
  · simp only; omega
theorem flows_true (first : MWater) (l : List MPoint) (limit : Int) : wormtublaw05_StreamFlows FU first l limit = some true := by
  have hf : (1000000 : Nat) < FU := by decide
  have h1 := FlowS_len first l
  have h2 := WarmS_len first l limit
  unfold wormtublaw05_StreamFlows
  obtain ⟨b, hb⟩ : ∃ b, wormtublaw05_long l = some b := ⟨_, rfl⟩
  rw [bind_ok hb]
  cases b
  · rw [cond_f rfl, bind_ok (Flow_eq _ _), bind_ok (refFlow_eq (by omega) _ _), bind_ok (Warm_eq (by omega) _ _ _), bind_ok (refWarm_eq (by omega) _ _ _), bind_ok (same_eq (a := (FlowS first l).1) (by omega) hf)]
    simp [ints_eq (show (WarmS first l limit).1.length ≤ 1000000 by omega) hf, ints_eq (show (WarmS first l limit).2.1.length ≤ 1000000 by omega) hf, awake_true]
  · rw [cond_t rfl, awake_true]
    rfl
end Go.Proofs.Ytlcccomdijdkaaa
