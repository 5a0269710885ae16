import Derived.Test.YtlcccomdijdkaaaPWrm7
namespace Go.Proofs.Ytlcccomdijdkaaa
open Go.RowKit Go.Proofs.Try

def Wle (w w' : MWater) : Prop := w.flow = w'.flow ∧ w.warm.lo ≤ w'.warm.lo ∧ w.warm.hi ≤ w'.warm.hi
theorem cl_mono {x y D : Int} (h : 0 < D) (hxy : x ≤ y) : cl x D ≤ cl y D := Int.ediv_le_ediv h (by omega)
theorem mixLo_mono {a b c d t t' u : Int} (h : Wts a b c d) (ht : t ≤ t') : mixLo t a b u c d ≤ mixLo t' a b u c d := by
  rw [← min_mix h, ← min_mix h]
  have m1 := Int.mul_le_mul_of_nonneg_right ht (show 0 ≤ b by have := h.a0; have := h.ab; omega)
  have m2 := Int.mul_le_mul_of_nonneg_right ht h.a0
  have e1 : (t * b + u * c) / (b + c) ≤ (t' * b + u * c) / (b + c) := Int.ediv_le_ediv h.bc (by omega)
  have e2 : (t * a + u * d) / (a + d) ≤ (t' * a + u * d) / (a + d) := Int.ediv_le_ediv h.ad (by omega)
  omega
theorem mixHi_mono {a b c d t t' u : Int} (h : Wts a b c d) (ht : t ≤ t') : mixHi t a b u c d ≤ mixHi t' a b u c d := by
  rw [← max_mix h, ← max_mix h]
  have m1 := Int.mul_le_mul_of_nonneg_right ht (show 0 ≤ b by have := h.a0; have := h.ab; omega)
  have m2 := Int.mul_le_mul_of_nonneg_right ht h.a0
  have e1 : cl (t * b + u * c) (b + c) ≤ cl (t' * b + u * c) (b + c) := cl_mono h.bc (by omega)
  have e2 : cl (t * a + u * d) (a + d) ≤ cl (t' * a + u * d) (a + d) := cl_mono h.ad (by omega)
  omega
theorem bh_mono {w w' : MWater} {p : MPoint} (hw : okW w) (hp : okP p) (h : Wle w w') : Wle (bh w p) (bh w' p) := by
  obtain ⟨e, h1, h2⟩ := h
  unfold okP at hp
  unfold bh Wle
  rw [← e]
  split at hp <;> rename_i k0
  · simp only [if_pos k0]
    exact ⟨trivial, mixLo_mono (joinWts hw hp.1) h1, mixHi_mono (joinWts hw hp.1) h2⟩
  simp only [if_neg k0]
  split at hp <;> rename_i k1
  · simp only [if_pos k1]
    exact ⟨trivial, h1, h2⟩
  simp only [if_neg k1]
  split at hp <;> rename_i k2
  · simp only [if_pos k2]
    exact ⟨trivial, by omega, by omega⟩
  simp only [if_neg k2]
  split at hp <;> rename_i k3
  · exact ⟨trivial, mixLo_mono (airWts hp.2) h1, mixHi_mono (airWts hp.2) h2⟩
  · exact hp.elim
theorem step_mono {w w' : MWater} {p : MPoint} (hw : okW w) (hw' : okW w') (h : Wle w w') (hs : stepS w' p = 0) : stepS w p = 0 := by
  obtain ⟨hp, ⟨b1, b2, b3⟩, ⟨b4, b5, b6⟩⟩ := stepS_ok hw' hs
  obtain ⟨m1, m2, m3⟩ := bh_mono hw hp h
  rw [← m1] at b1 b2 b3
  unfold stepS
  rw [if_neg (by simpa using hp), if_neg (by omega), if_neg (by omega)]
/-- from the k-th water on nothing is warmer than the limit, and nothing stops the walk -/
def good (limit : Int) : Nat → MWater → List MPoint → Prop
  | _, _, [] => True
  | k, c, p :: r => stepS c p = 0 ∧ (k = 0 → (bh c p).warm.hi ≤ limit) ∧ good limit (k - 1) (bh c p) r
def goodB (limit : Int) (k : Nat) (c : MWater) (l : List MPoint) : Bool := decide ((flowS c l).2 = 0 ∧ ∀ w ∈ (flowS c l).1.drop k, w.warm.hi ≤ limit)
theorem good_iff (limit : Int) : ∀ (l : List MPoint) (k : Nat) (c : MWater), goodB limit k c l = true ↔ good limit k c l
  | [], k, c => by simp [good, goodB, flowS]
  | p :: r, k, c => by
    rw [good, ← good_iff limit r (k - 1) (bh c p)]
    unfold goodB
    by_cases hs : stepS c p = 0
    · rw [flowS_cons_ok hs]
      cases k with
      | zero => simp [hs]; grind
      | succ k => simp [hs]
    · rw [flowS_cons_no hs]
      simp [hs]
theorem good_mono (limit : Int) : ∀ (l : List MPoint) (k : Nat) (w w' : MWater), okW w → okW w' → Wle w w' → good limit k w' l → good limit k w l
  | [], _, _, _, _, _, _, _ => trivial
  | p :: r, k, w, w', hw, hw', h, hg => by
    obtain ⟨g1, g2, g3⟩ := hg
    have s := step_mono hw hw' h g1
    obtain ⟨hp, hb'⟩ := stepS_ok hw' g1
    have m := bh_mono hw hp h
    exact ⟨s, fun hk => Int.le_trans m.2.2 (g2 hk), good_mono limit r (k - 1) _ _ (stepS_ok hw s).2 hb' m g3⟩
theorem okP_add {y : Int} : okP (addP y) ↔ 0 ≤ y ∧ y ≤ 1099511627776 := by
  unfold okP Okay
  simp [addP]
theorem bh_add (c : MWater) (y : Int) : bh c (addP y) = ⟨c.flow, ⟨c.warm.lo + y / c.flow.hi, c.warm.hi + cl y c.flow.lo⟩⟩ := by
  unfold bh
  simp [addP]
theorem good_heat (limit : Int) {x y : Int} (hx : 0 ≤ x) (hxy : x ≤ y) (post : List MPoint) : ∀ (pre : List MPoint) (k : Nat) (c : MWater), okW c → good limit k c (pre ++ addP y :: post) → good limit k c (pre ++ addP x :: post)
  | [], k, c, hc, hg => by
    obtain ⟨g1, g2, g3⟩ := hg
    obtain ⟨hp, hb⟩ := stepS_ok hc g1
    have hy := okP_add.1 hp
    have hpx : okP (addP x) := okP_add.2 (by omega)
    have hC := hc
    obtain ⟨⟨f1, f2, f3⟩, _⟩ := hc
    have m : Wle (bh c (addP x)) (bh c (addP y)) := by
      rw [bh_add, bh_add]
      have e1 : x / c.flow.hi ≤ y / c.flow.hi := Int.ediv_le_ediv (by omega) hxy
      have e2 := cl_mono (D := c.flow.lo) (by omega) hxy
      exact ⟨rfl, by simp only; omega, by simp only; omega⟩
    have s : stepS c (addP x) = 0 := by
      obtain ⟨⟨b1, b2, b3⟩, ⟨b4, b5, b6⟩⟩ := hb
      obtain ⟨m1, m2, m3⟩ := m
      rw [← m1] at b1 b2 b3
      unfold stepS
      rw [if_neg (by simpa using hpx), if_neg (by omega), if_neg (by omega)]
    exact ⟨s, fun hk => Int.le_trans m.2.2 (g2 hk), good_mono limit post (k - 1) _ _ (stepS_ok hC s).2 hb m g3⟩
  | p :: pre, k, c, hc, hg => by
    obtain ⟨g1, g2, g3⟩ := hg
    exact ⟨g1, g2, good_heat limit hx hxy post pre (k - 1) (bh c p) (stepS_ok hc g1).2 g3⟩
/-- a heat fits, as a mark of it -/
def fitB (c : MWater) (l : List MPoint) (at' limit h : Int) : Bool := goodB limit at'.toNat c (insertP l at' h)
theorem fit_mono {c : MWater} {l : List MPoint} {at' limit x y : Int} (hc : okW c) (hx : 0 ≤ x) (hxy : x ≤ y) (h : fitB c l at' limit y = true) : fitB c l at' limit x = true :=
  (good_iff _ _ _ _).2 (good_heat limit hx hxy _ _ _ _ hc ((good_iff _ _ _ _).1 h))
end Go.Proofs.Ytlcccomdijdkaaa
namespace Go.Proofs.Ytlcccomdijdkaaa
open Go.RowKit Go.Proofs.Try

/-- the points that may be, and that can be, too warm -/
def warmS (limit : Int) : Nat → List MWater → List Int × List Int
  | _, [] => ([], [])
  | i, w :: r => (if limit < w.warm.lo then (i : Int) :: (warmS limit (i + 1) r).1 else (warmS limit (i + 1) r).1, if limit < w.warm.hi then (i : Int) :: (warmS limit (i + 1) r).2 else (warmS limit (i + 1) r).2)
theorem warmS_len (limit : Int) : ∀ (l : List MWater) (i : Nat), (warmS limit i l).1.length ≤ l.length ∧ (warmS limit i l).2.length ≤ l.length
  | [], _ => ⟨Nat.le_refl _, Nat.le_refl _⟩
  | w :: r, i => by
    have := warmS_len limit r (i + 1)
    rw [warmS]
    simp only [List.length_cons]
    constructor <;> split <;> (try simp only [List.length_cons]) <;> omega
theorem warmLoop_eq (limit : Int) (z : List MWater × Int × Int) (hl : z.1.length ≤ 64) : ∀ (n i : Nat) (A B : List Int), i ≤ z.1.length → z.1.length < i + n → A.length ≤ i → B.length ≤ i →
    stream_Warm_l1 limit z n ((i : Int), A, B) = some (Lp.done (A ++ (warmS limit i (z.1.drop i)).1, B ++ (warmS limit i (z.1.drop i)).2))
  | 0, i, A, B, hi, hn, hA, hB => by omega
  | n + 1, i, A, B, hi, hn, hA, hB => by
    rw [stream_Warm_l1]
    simp only
    by_cases hlt : i < z.1.length
    · have hd : z.1.drop i = z.1.getD i default :: z.1.drop (i + 1) := by
        rw [List.drop_eq_getElem_cons hlt]
        simp [List.getD, hlt]
      rw [cond_t (by simpa using hlt), grd_pos ⟨by omega, by omega⟩, hd, warmS]
      simp only [Int.toNat_natCast]
      clear hd
      obtain ⟨w, hw⟩ : ∃ w, w = z.1.getD i default := ⟨_, rfl⟩
      simp only [← hw]
      clear hw
      have e : ((i + 1 : Nat) : Int) = (i : Int) + 1 := by omega
      by_cases h1 : limit < w.warm.lo
      · rw [cond_t (by simpa using h1), grd_pos (by omega), Option.bind_some]
        simp only [h1, if_true]
        by_cases h2 : limit < w.warm.hi
        · rw [cond_t (by simpa using h2), grd_pos (by omega), grd_pos (by omega), ← e, warmLoop_eq limit z hl n (i + 1) _ _ (by omega) (by omega) (by simp; omega) (by simp; omega)]
          simp [h2]
        · rw [cond_f (by simpa using h2), grd_pos (by omega), ← e, warmLoop_eq limit z hl n (i + 1) _ _ (by omega) (by omega) (by simp; omega) (by omega)]
          simp [h2]
      · rw [cond_f (by simpa using h1), Option.bind_some]
        simp only [h1, if_false]
        by_cases h2 : limit < w.warm.hi
        · rw [cond_t (by simpa using h2), grd_pos (by omega), grd_pos (by omega), ← e, warmLoop_eq limit z hl n (i + 1) _ _ (by omega) (by omega) (by omega) (by simp; omega)]
          simp [h2]
        · rw [cond_f (by simpa using h2), grd_pos (by omega), ← e, warmLoop_eq limit z hl n (i + 1) _ _ (by omega) (by omega) (by omega) (by omega)]
          simp [h2]
    · have : z.1.drop i = [] := List.drop_eq_nil_of_le (by omega)
      rw [cond_f (by simpa using hlt), this, warmS]
      simp
def WarmS (first : MWater) (l : List MPoint) (limit : Int) : List Int × List Int × Int :=
  if ¬ okW first then ([], [], 1) else if ¬ (0 ≤ limit ∧ limit ≤ 100000) then ([], [], 2) else
  if (FlowS first l).2.2 ≠ 0 then ([], [], (FlowS first l).2.2) else ((warmS limit 0 (FlowS first l).1).1, (warmS limit 0 (FlowS first l).1).2, 0)
theorem FlowS_len (first : MWater) (l : List MPoint) : (FlowS first l).1.length ≤ 64 := by
  unfold FlowS
  split
  · simp
  split
  · simp
  have := flowS_len l first
  split
  · simp
  · simp only; omega
theorem Warm_eq {fuel : Nat} (hf : 65 < fuel) (first : MWater) (l : List MPoint) (limit : Int) : stream_Warm fuel first l limit = some (WarmS first l limit) := by
  unfold stream_Warm WarmS
  rw [bind_ok (validWater_eq _)]
  by_cases h : okW first
  · rw [cond_f (by simpa using h), if_neg (by simpa using h)]
    have hv : stream_validLimit limit = some (decide (0 ≤ limit ∧ limit ≤ 100000)) := by rw [stream_validLimit]; simp
    rw [bind_ok hv]
    by_cases h1 : 0 ≤ limit ∧ limit ≤ 100000
    · rw [cond_f (by simpa using h1), if_neg (by simpa using h1), bind_ok (Flow_eq _ _)]
      have hl := FlowS_len first l
      by_cases h2 : (FlowS first l).2.2 = 0
      · rw [cond_f (by simpa using h2), if_neg (by simpa using h2)]
        have := warmLoop_eq limit (FlowS first l) hl fuel 0 [] [] (by omega) (by omega) (by simp) (by simp)
        rw [List.drop_zero, List.nil_append, List.nil_append] at this
        have h3 : stream_Warm_l1 limit (FlowS first l) fuel (0, [], []) = _ := this
        rw [bind_ok h3]
        rfl
      · rw [cond_t (by simpa using h2), if_pos h2]
    · rw [cond_t (not_dec h1), if_pos h1]
  · rw [cond_t (by simpa using h), if_pos h]
theorem WarmS_len (first : MWater) (l : List MPoint) (limit : Int) : (WarmS first l limit).1.length ≤ 64 ∧ (WarmS first l limit).2.1.length ≤ 64 := by
  unfold WarmS
  split
  · simp
  split
  · simp
  have h := FlowS_len first l
  have := warmS_len limit (FlowS first l).1 0
  split
  · simp
  · simp only; omega
end Go.Proofs.Ytlcccomdijdkaaa
namespace Go.Proofs.Ytlcccomdijdkaaa
open Go.RowKit

variable {P : Program} {X : Ctx} {E : Env} {a : Act} {w : World} {st : SState}

theorem pure_idxSm {lay : Lay} (hl : LayOK P lay) {B t g n j N es : Nat} {ag : Bool} {m : MState} {x y : Operand} {k : IntKind} {z : List Value} {eq : Bool} {by' : Nat} (ht : look lay t = some ⟨.arr N es ag, n, z, eq, by'⟩) (hj : j < N) : (Ob.pure m (.indexAddr t x y) [.own g 0, .v (.int k j)] (.own g (j * es))).holds P B := by
  intro E w R ρ dst ty pos aft gd _ hx
  have hx' : ρ x = .pointer (some ⟨E.ρ g, 0, none⟩) ∧ ρ y = .int k j := by simpa [Op.operands, SV.vals, SV.val] using hx
  obtain ⟨u, hu, hmm⟩ := (hl t _ ht).under
  obtain ⟨e, rfl, hkn, hes, _⟩ := hmm
  simp only [execOp, Instr.indexAt, hx'.1, hx'.2, asIntOf, Sem.run_bind, Sem.run_pure, Result.andThen_ok, run_underlying hu, Instr.sureAddr]
  rw [if_pos (by omega)]
  simp only [Sem.run_bind, knownB.run_size hkn, Result.andThen_ok, Sem.run_pure, ← hes, add_plain', SV.val, Int.toNat_natCast, Nat.zero_add]
end Go.Proofs.Ytlcccomdijdkaaa
