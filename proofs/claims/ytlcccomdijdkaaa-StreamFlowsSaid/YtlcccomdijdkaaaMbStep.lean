/- The water behind one point, and what both sides say of it. -/
import Derived.Test.YtlcccomdijdkaaaMbA
namespace Go.Proofs.Ytlcccomdijdkaaa
open Go.RowKit Go.Proofs.Try

def okW (w : MWater) : Prop := Okay 1 1073741824 w.flow ∧ Okay 0 100000 w.warm
instance (w : MWater) : Decidable (okW w) := inferInstanceAs (Decidable (_ ∧ _))
def okP (p : MPoint) : Prop :=
  if p.kind = 0 then Okay 1 1073741824 p.flow ∧ Okay 0 100000 p.warm else if p.kind = 1 then Okay 0 1073741824 p.flow else
  if p.kind = 2 then Okay 0 1099511627776 p.heat else if p.kind = 3 then Okay 0 100000 p.warm ∧ Okay 0 10000 p.share else False
instance (p : MPoint) : Decidable (okP p) := by unfold okP; infer_instance
def bh (w : MWater) (p : MPoint) : MWater :=
  if p.kind = 0 then ⟨⟨w.flow.lo + p.flow.lo, w.flow.hi + p.flow.hi⟩, ⟨mixLo w.warm.lo w.flow.lo w.flow.hi p.warm.lo p.flow.lo p.flow.hi, mixHi w.warm.hi w.flow.lo w.flow.hi p.warm.hi p.flow.lo p.flow.hi⟩⟩
  else if p.kind = 1 then ⟨⟨w.flow.lo - p.flow.hi, w.flow.hi - p.flow.lo⟩, w.warm⟩
  else if p.kind = 2 then ⟨w.flow, ⟨w.warm.lo + p.heat.lo / w.flow.hi, w.warm.hi + cl p.heat.hi w.flow.lo⟩⟩
  else ⟨w.flow, ⟨mixLo w.warm.lo (10000 - p.share.hi) (10000 - p.share.lo) p.warm.lo p.share.lo p.share.hi, mixHi w.warm.hi (10000 - p.share.hi) (10000 - p.share.lo) p.warm.hi p.share.lo p.share.hi⟩⟩
theorem within_eq (s : MSpan) (lo hi : Int) : stream_within s lo hi = some (decide (Okay lo hi s)) := by rw [stream_within, okay_bool]
theorem span_eq (s : MSpan) (lo hi : Int) : wormtubref05_span s lo hi = some (decide (Okay lo hi s)) := by rw [wormtubref05_span, okay_bool]
theorem in_eq (n lo hi : Int) : wormtubref05_in n lo hi = some (decide (lo ≤ n ∧ n ≤ hi)) := by rw [wormtubref05_in]; simp
theorem two_bool (p q : Prop) [Decidable p] [Decidable q] : ((bif decide p then some (decide q) else some default).bind fun r => some (decide p && r)) = some (decide (p ∧ q)) := by
  by_cases h : p <;> simp [h]
theorem validWater_eq (w : MWater) : stream_validWater w = some (decide (okW w)) := by
  unfold stream_validWater
  simp only [within_eq, Option.bind_some]
  exact two_bool _ _
theorem refWater_eq (w : MWater) : wormtubref05_Water w = some (decide (okW w)) := by
  unfold wormtubref05_Water
  simp only [span_eq, Option.bind_some]
  exact two_bool _ _
theorem joinValid_eq (j : MJoin) : stream_join_valid j = some (decide (Okay 1 1073741824 j.flow ∧ Okay 0 100000 j.warm)) := by
  unfold stream_join_valid
  simp only [within_eq, Option.bind_some]
  exact two_bool _ _
theorem drawValid_eq (j : MDraw) : stream_draw_valid j = some (decide (Okay 0 1073741824 j.flow)) := by
  unfold stream_draw_valid
  simp only [within_eq, Option.bind_some]
theorem addValid_eq (j : MAdd) : stream_add_valid j = some (decide (Okay 0 1099511627776 j.heat)) := by
  unfold stream_add_valid
  simp only [within_eq, Option.bind_some]
theorem airValid_eq (j : MAir) : stream_air_valid j = some (decide (Okay 0 100000 j.warm ∧ Okay 0 10000 j.share)) := by
  unfold stream_air_valid
  simp only [within_eq, Option.bind_some]
  exact two_bool _ _
theorem refPoint_eq (p : MPoint) : wormtubref05_Point p = some (decide (okP p)) := by
  unfold wormtubref05_Point okP
  by_cases k0 : p.kind = 0
  · rw [cond_t (by simp [k0])]
    simp only [span_eq, Option.bind_some, if_pos k0]
    exact two_bool _ _
  rw [cond_f (by simp [k0])]
  by_cases k1 : p.kind = 1
  · rw [cond_t (by simp [k1])]
    simp only [span_eq, Option.bind_some, if_neg k0, if_pos k1]
  rw [cond_f (by simp [k1])]
  by_cases k2 : p.kind = 2
  · rw [cond_t (by simp [k2])]
    simp only [span_eq, Option.bind_some, if_neg k0, if_neg k1, if_pos k2]
  rw [cond_f (by simp [k2])]
  by_cases k3 : p.kind = 3
  · rw [cond_t (by simp [k3])]
    simp only [span_eq, Option.bind_some, if_neg k0, if_neg k1, if_neg k2, if_pos k3]
    exact two_bool _ _
  rw [cond_f (by simp [k3])]
  simp only [if_neg k0, if_neg k1, if_neg k2, if_neg k3, decide_false]
theorem joinWts {w : MWater} {p : MPoint} (hw : okW w) (hp : Okay 1 1073741824 p.flow) : Wts w.flow.lo w.flow.hi p.flow.lo p.flow.hi := by
  obtain ⟨⟨_, _, _⟩, _⟩ := hw
  obtain ⟨_, _, _⟩ := hp
  exact ⟨by omega, by omega, by omega, by omega, by omega, by omega, by omega, by omega⟩
theorem airWts {p : MPoint} (hp : Okay 0 10000 p.share) : Wts (10000 - p.share.hi) (10000 - p.share.lo) p.share.lo p.share.hi := by
  obtain ⟨_, _, _⟩ := hp
  exact ⟨by omega, by omega, by omega, by omega, by omega, by omega, by omega, by omega⟩
/-- what lies behind: in order -/
theorem bh_ok {w : MWater} {p : MPoint} (hw : okW w) (hp : okP p) : (bh w p).flow.lo ≤ (bh w p).flow.hi ∧ (bh w p).flow.hi ≤ 2147483648 ∧ -1073741824 ≤ (bh w p).flow.lo ∧ 0 ≤ (bh w p).warm.lo ∧ (bh w p).warm.lo ≤ (bh w p).warm.hi ∧ (bh w p).warm.hi ≤ 1099511727776 := by
  have hW := hw
  obtain ⟨⟨f1, f2, f3⟩, ⟨t1, t2, t3⟩⟩ := hw
  unfold okP at hp
  unfold bh
  split at hp <;> rename_i k0
  · rw [if_pos k0]
    have H := mix_ok (joinWts hW hp.1) t1 t2 t3 hp.2.1 hp.2.2.1 hp.2.2.2
    obtain ⟨⟨_, _, _⟩, _⟩ := hp
    exact ⟨by simp only; omega, by simp only; omega, by simp only; omega, H.1, H.2.1, by simp only; omega⟩
  rw [if_neg k0]
  split at hp <;> rename_i k1
  · rw [if_pos k1]
    obtain ⟨_, _, _⟩ := hp
    exact ⟨by simp only; omega, by simp only; omega, by simp only; omega, t1, t2, by simp only; omega⟩
  rw [if_neg k1]
  split at hp <;> rename_i k2
  · rw [if_pos k2]
    obtain ⟨h1, h2, h3⟩ := hp
    have e1 := div_in h1 (show 0 < w.flow.hi by omega)
    have e2 : p.heat.lo / w.flow.hi ≤ cl p.heat.hi w.flow.lo := by
      refine Int.le_trans (floor_le (by omega) (show 0 < w.flow.lo by omega) ?_) (floor_ceil (by omega))
      exact Int.mul_le_mul h2 f2 (by omega) (by omega)
    have e3 : cl p.heat.hi w.flow.lo ≤ p.heat.hi := cl_of (by omega) (by have := Int.mul_le_mul_of_nonneg_left f1 (show 0 ≤ p.heat.hi by omega); omega)
    exact ⟨by simp only; omega, by simp only; omega, by simp only; omega, by simp only; omega, by simp only; omega, by simp only; omega⟩
  rw [if_neg k2]
  split at hp <;> rename_i k3
  · have H := mix_ok (airWts hp.2) t1 t2 t3 hp.1.1 hp.1.2.1 hp.1.2.2
    exact ⟨by simp only; omega, by simp only; omega, by simp only; omega, H.1, H.2.1, by simp only; omega⟩
  · exact hp.elim
theorem mix_eq {t f u g : Int} (t0 : 0 ≤ t) (t1 : t ≤ 100000) (u0 : 0 ≤ u) (u1 : u ≤ 100000) (f0 : 0 ≤ f) (f1 : f ≤ 1073741824) (g0 : 0 ≤ g) (g1 : g ≤ 1073741824) : wormtubref05_mix t f u g = some (t * f + u * g, f + g) := by
  have p1 := prod_in t0 t1 f0
  have p2 := prod_in u0 u1 g0
  rw [wormtubref05_mix, grd_pos ⟨by omega, by omega, by omega, by omega⟩]
theorem refUp_eq {a b : Int} (a0 : 0 ≤ a) (a1 : a ≤ 4611686018427387904) (b0 : 0 < b) (b1 : b ≤ 4611686018427387) : wormtubref05_up a b = some (cl a b) := by
  have := div_in (show 0 ≤ a + b - 1 by omega) b0
  rw [wormtubref05_up, tdiv_eq (by omega), grd_pos ⟨by omega, by omega, by omega, by omega⟩]
  rfl
theorem up_eq {a b : Int} (a0 : 0 ≤ a) (a1 : a ≤ 4611686018427387904) (b0 : 0 < b) (b1 : b ≤ 4611686018427387) : stream_up a b = some (cl a b) := by
  have := div_in (show 0 ≤ a + b - 1 by omega) b0
  rw [stream_up, tdiv_eq (by omega), grd_pos ⟨by omega, by omega, by omega, by omega⟩]
  rfl
theorem down_eq {a b : Int} (a0 : 0 ≤ a) (a1 : a ≤ 4611686018427387904) (b0 : 0 < b) : stream_down a b = some (a / b) := by
  have := div_in a0 b0
  rw [stream_down, tdiv_eq (by omega), grd_pos ⟨by omega, by omega⟩]
theorem betDown_eq {t u F G : Int} (t0 : 0 ≤ t) (t1 : t ≤ 100000) (u0 : 0 ≤ u) (u1 : u ≤ 100000) (f0 : 0 ≤ F) (f1 : F ≤ 1073741824) (g0 : 0 ≤ G) (g1 : G ≤ 1073741824) (h : 0 < F + G) : betweenDown ⟨G, F + G⟩ t u = some ((t * F + u * G) / (F + G)) := by
  have p1 := prod_in t0 t1 f0
  have p2 := prod_in u0 u1 g0
  unfold betweenDown
  simp only [show F + G - G = F by omega]
  rw [grd_pos ⟨by omega, by omega, by omega, by omega⟩, down_eq (by omega) (by omega) h]
  rfl
theorem betUp_eq {t u F G : Int} (t0 : 0 ≤ t) (t1 : t ≤ 100000) (u0 : 0 ≤ u) (u1 : u ≤ 100000) (f0 : 0 ≤ F) (f1 : F ≤ 1073741824) (g0 : 0 ≤ G) (g1 : G ≤ 1073741824) (h : 0 < F + G) : betweenUp ⟨G, F + G⟩ t u = some (cl (t * F + u * G) (F + G)) := by
  have p1 := prod_in t0 t1 f0
  have p2 := prod_in u0 u1 g0
  unfold betweenUp
  simp only [show F + G - G = F by omega]
  rw [grd_pos ⟨by omega, by omega, by omega, by omega⟩, up_eq (by omega) (by omega) h (by omega)]
  rfl
theorem toward_eq {a b c d : Int} {s o : MSpan} (h : Wts a b c d) (hs : Okay 0 100000 s) (ho : Okay 0 100000 o) : stream_toward s o ⟨c, b + c⟩ ⟨d, a + d⟩ = some ⟨mixLo s.lo a b o.lo c d, mixHi s.hi a b o.hi c d⟩ := by
  have H := h
  obtain ⟨a0, ab, b1, c0, cd, d1, ad, bc⟩ := h
  obtain ⟨s1, s2, s3⟩ := hs
  obtain ⟨o1, o2, o3⟩ := ho
  unfold stream_toward
  rw [bind_ok (betDown_eq (by omega) (by omega) (by omega) (by omega) (by omega) (by omega) (by omega) (by omega) bc),
    bind_ok (betDown_eq (by omega) (by omega) (by omega) (by omega) (by omega) (by omega) (by omega) (by omega) ad),
    bind_ok (betUp_eq (by omega) (by omega) (by omega) (by omega) (by omega) (by omega) (by omega) (by omega) bc),
    bind_ok (betUp_eq (by omega) (by omega) (by omega) (by omega) (by omega) (by omega) (by omega) (by omega) ad), min_mix H, max_mix H]
/-- the document's side -/
theorem refBehind_eq {w : MWater} {p : MPoint} (hw : okW w) (hp : okP p) : wormtubref05_behind w p = some (bh w p) := by
  have hW := hw
  obtain ⟨⟨f1, f2, f3⟩, ⟨t1, t2, t3⟩⟩ := hw
  unfold okP at hp
  unfold wormtubref05_behind bh
  split at hp <;> rename_i k0
  · rw [cond_t (by simp [k0]), if_pos k0]
    obtain ⟨⟨a1, a2, a3⟩, ⟨b1, b2, b3⟩⟩ := hp
    rw [grd_pos ⟨by omega, by omega⟩]
    unfold mixLo mixHi
    by_cases h1 : p.warm.lo < w.warm.lo
    · have q1 := mean_in (t := w.warm.lo) (u := p.warm.lo) (a := w.flow.lo) (d := p.flow.hi) (by omega) (by omega) (by omega) (by omega) (by omega) (by omega) (by omega)
      have p1 := prod_in (t := w.warm.lo) (M := 100000) (a := w.flow.lo) (by omega) (by omega) (by omega)
      have p2 := prod_in (t := p.warm.lo) (M := 100000) (a := p.flow.hi) (by omega) (by omega) (by omega)
      have p3 := div_in (a := w.warm.lo * w.flow.lo + p.warm.lo * p.flow.hi) (b := w.flow.lo + p.flow.hi) (by omega) (by omega)
      rw [cond_t (by simpa using h1), Option.bind_some, bind_ok (mix_eq (by omega) (by omega) (by omega) (by omega) (by omega) (by omega) (by omega) (by omega)), if_pos h1]
      simp only [tdiv_eq (show 0 ≤ w.warm.lo * w.flow.lo + p.warm.lo * p.flow.hi by omega)]
      rw [grd_pos ⟨by omega, by omega⟩]
      by_cases h2 : p.warm.hi < w.warm.hi
      · have p4 := prod_in (t := w.warm.hi) (M := 100000) (a := w.flow.hi) (by omega) (by omega) (by omega)
        have p5 := prod_in (t := p.warm.hi) (M := 100000) (a := p.flow.lo) (by omega) (by omega) (by omega)
        rw [cond_t (by simpa using h2), Option.bind_some, bind_ok (mix_eq (by omega) (by omega) (by omega) (by omega) (by omega) (by omega) (by omega) (by omega)), if_pos h2, bind_ok (refUp_eq (by simp only; omega) (by simp only; omega) (by simp only; omega) (by simp only; omega))]
      · have p4 := prod_in (t := w.warm.hi) (M := 100000) (a := w.flow.lo) (by omega) (by omega) (by omega)
        have p5 := prod_in (t := p.warm.hi) (M := 100000) (a := p.flow.hi) (by omega) (by omega) (by omega)
        rw [cond_f (by simpa using h2), Option.bind_some, bind_ok (mix_eq (by omega) (by omega) (by omega) (by omega) (by omega) (by omega) (by omega) (by omega)), if_neg h2, bind_ok (refUp_eq (by simp only; omega) (by simp only; omega) (by simp only; omega) (by simp only; omega))]
    · have p1 := prod_in (t := w.warm.lo) (M := 100000) (a := w.flow.hi) (by omega) (by omega) (by omega)
      have p2 := prod_in (t := p.warm.lo) (M := 100000) (a := p.flow.lo) (by omega) (by omega) (by omega)
      have p3 := div_in (a := w.warm.lo * w.flow.hi + p.warm.lo * p.flow.lo) (b := w.flow.hi + p.flow.lo) (by omega) (by omega)
      rw [cond_f (by simpa using h1), Option.bind_some, bind_ok (mix_eq (by omega) (by omega) (by omega) (by omega) (by omega) (by omega) (by omega) (by omega)), if_neg h1]
      simp only [tdiv_eq (show 0 ≤ w.warm.lo * w.flow.hi + p.warm.lo * p.flow.lo by omega)]
      rw [grd_pos ⟨by omega, by omega⟩]
      by_cases h2 : p.warm.hi < w.warm.hi
      · have p4 := prod_in (t := w.warm.hi) (M := 100000) (a := w.flow.hi) (by omega) (by omega) (by omega)
        have p5 := prod_in (t := p.warm.hi) (M := 100000) (a := p.flow.lo) (by omega) (by omega) (by omega)
        rw [cond_t (by simpa using h2), Option.bind_some, bind_ok (mix_eq (by omega) (by omega) (by omega) (by omega) (by omega) (by omega) (by omega) (by omega)), if_pos h2, bind_ok (refUp_eq (by simp only; omega) (by simp only; omega) (by simp only; omega) (by simp only; omega))]
      · have p4 := prod_in (t := w.warm.hi) (M := 100000) (a := w.flow.lo) (by omega) (by omega) (by omega)
        have p5 := prod_in (t := p.warm.hi) (M := 100000) (a := p.flow.hi) (by omega) (by omega) (by omega)
        rw [cond_f (by simpa using h2), Option.bind_some, bind_ok (mix_eq (by omega) (by omega) (by omega) (by omega) (by omega) (by omega) (by omega) (by omega)), if_neg h2, bind_ok (refUp_eq (by simp only; omega) (by simp only; omega) (by simp only; omega) (by simp only; omega))]
  rw [cond_f (by simp [k0]), if_neg k0]
  split at hp <;> rename_i k1
  · obtain ⟨a1, a2, a3⟩ := hp
    rw [cond_t (by simp [k1]), if_pos k1, grd_pos ⟨by omega, by omega⟩]
  rw [cond_f (by simp [k1]), if_neg k1]
  split at hp <;> rename_i k2
  · obtain ⟨a1, a2, a3⟩ := hp
    have e1 := div_in a1 (show 0 < w.flow.hi by omega)
    have e3 : cl p.heat.hi w.flow.lo ≤ p.heat.hi := cl_of (by omega) (by have := Int.mul_le_mul_of_nonneg_left f1 (show 0 ≤ p.heat.hi by omega); omega)
    have e4 : 0 ≤ cl p.heat.hi w.flow.lo := Int.ediv_nonneg (by omega) (by omega)
    rw [cond_t (by simp [k2]), if_pos k2, tdiv_eq (by omega), grd_pos ⟨by omega, by omega, by omega⟩, bind_ok (refUp_eq (by omega) (by omega) (by omega) (by omega)), grd_pos (by omega)]
  rw [cond_f (by simp [k2]), if_neg k2]
  split at hp <;> rename_i k3
  · obtain ⟨⟨b1, b2, b3⟩, ⟨a1, a2, a3⟩⟩ := hp
    rw [cond_t (by simp [k3])]
    unfold mixLo mixHi
    have P := fun (x y : Int) (x0 : 0 ≤ x) (x1 : x ≤ 100000) (y0 : 0 ≤ y) (y1 : y ≤ 10000) => prod_in (t := x) (M := 100000) (a := y) x0 x1 y0
    by_cases h1 : p.warm.lo < w.warm.lo
    · have p1 := P w.warm.lo (10000 - p.share.hi) (by omega) (by omega) (by omega) (by omega)
      have p2 := P p.warm.lo p.share.hi (by omega) (by omega) (by omega) (by omega)
      have p3 := div_in (a := w.warm.lo * (10000 - p.share.hi) + p.warm.lo * p.share.hi) (b := 10000 - p.share.hi + p.share.hi) (by omega) (by omega)
      rw [cond_t (by simpa using h1), Option.bind_some, grd_pos (by omega), bind_ok (mix_eq (by omega) (by omega) (by omega) (by omega) (by omega) (by omega) (by omega) (by omega)), if_pos h1]
      simp only [tdiv_eq (show 0 ≤ w.warm.lo * (10000 - p.share.hi) + p.warm.lo * p.share.hi by omega)]
      rw [grd_pos ⟨by omega, by omega⟩]
      by_cases h2 : p.warm.hi < w.warm.hi
      · have p4 := P w.warm.hi (10000 - p.share.lo) (by omega) (by omega) (by omega) (by omega)
        have p5 := P p.warm.hi p.share.lo (by omega) (by omega) (by omega) (by omega)
        rw [cond_t (by simpa using h2), Option.bind_some, grd_pos (by omega), bind_ok (mix_eq (by omega) (by omega) (by omega) (by omega) (by omega) (by omega) (by omega) (by omega)), if_pos h2, bind_ok (refUp_eq (by simp only; omega) (by simp only; omega) (by simp only; omega) (by simp only; omega))]
      · have p4 := P w.warm.hi (10000 - p.share.hi) (by omega) (by omega) (by omega) (by omega)
        have p5 := P p.warm.hi p.share.hi (by omega) (by omega) (by omega) (by omega)
        rw [cond_f (by simpa using h2), Option.bind_some, grd_pos (by omega), bind_ok (mix_eq (by omega) (by omega) (by omega) (by omega) (by omega) (by omega) (by omega) (by omega)), if_neg h2, bind_ok (refUp_eq (by simp only; omega) (by simp only; omega) (by simp only; omega) (by simp only; omega))]
    · have p1 := P w.warm.lo (10000 - p.share.lo) (by omega) (by omega) (by omega) (by omega)
      have p2 := P p.warm.lo p.share.lo (by omega) (by omega) (by omega) (by omega)
      have p3 := div_in (a := w.warm.lo * (10000 - p.share.lo) + p.warm.lo * p.share.lo) (b := 10000 - p.share.lo + p.share.lo) (by omega) (by omega)
      rw [cond_f (by simpa using h1), Option.bind_some, grd_pos (by omega), bind_ok (mix_eq (by omega) (by omega) (by omega) (by omega) (by omega) (by omega) (by omega) (by omega)), if_neg h1]
      simp only [tdiv_eq (show 0 ≤ w.warm.lo * (10000 - p.share.lo) + p.warm.lo * p.share.lo by omega)]
      rw [grd_pos ⟨by omega, by omega⟩]
      by_cases h2 : p.warm.hi < w.warm.hi
      · have p4 := P w.warm.hi (10000 - p.share.lo) (by omega) (by omega) (by omega) (by omega)
        have p5 := P p.warm.hi p.share.lo (by omega) (by omega) (by omega) (by omega)
        rw [cond_t (by simpa using h2), Option.bind_some, grd_pos (by omega), bind_ok (mix_eq (by omega) (by omega) (by omega) (by omega) (by omega) (by omega) (by omega) (by omega)), if_pos h2, bind_ok (refUp_eq (by simp only; omega) (by simp only; omega) (by simp only; omega) (by simp only; omega))]
      · have p4 := P w.warm.hi (10000 - p.share.hi) (by omega) (by omega) (by omega) (by omega)
        have p5 := P p.warm.hi p.share.hi (by omega) (by omega) (by omega) (by omega)
        rw [cond_f (by simpa using h2), Option.bind_some, grd_pos (by omega), bind_ok (mix_eq (by omega) (by omega) (by omega) (by omega) (by omega) (by omega) (by omega) (by omega)), if_neg h2, bind_ok (refUp_eq (by simp only; omega) (by simp only; omega) (by simp only; omega) (by simp only; omega))]
  · exact hp.elim
end Go.Proofs.Ytlcccomdijdkaaa
