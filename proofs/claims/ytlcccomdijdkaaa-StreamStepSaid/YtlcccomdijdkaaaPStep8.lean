import Derived.Test.YtlcccomdijdkaaaPStep7
import Derived.Test.YtlcccomdijdkaaaPStep5
import Derived.Test.YtlcccomdijdkaaaRows
namespace Go.Proofs.Ytlcccomdijdkaaa
open Go.RowKit Go.Proofs.Try

def okW (w : MWater) : Prop := Okay 1 1073741824 w.flow ∧ Okay 0 100000 w.warm
instance (w : MWater) : Decidable (okW w) := inferInstanceAs (Decidable (_ ∧ _))
def okP (p : MPoint) : Prop :=
  if p.kind = 0 then Okay 1 1073741824 p.flow ∧ Okay 0 100000 p.warm else if p.kind = 1 then Okay 0 1073741824 p.flow else
  if p.kind = 2 then Okay 0 1099511627776 p.heat else if p.kind = 3 then Okay 0 100000 p.warm ∧ Okay 0 10000 p.share else False
instance (p : MPoint) : Decidable (okP p) := by unfold okP; infer_instance
def bh (w : MWater) (p : MPoint) : MWater :=
  if p.kind = 0 then ⟨⟨w.flow.lo + p.flow.lo, w.flow.hi + p.flow.hi⟩, ⟨mixLo w.warm.lo w.flow.lo w.flow.hi p.warm.lo p.flow.lo p.flow.hi, mixHi w.warm.hi w.flow.lo w.flow.hi p.warm.hi p.flow.lo p.flow.hi⟩⟩
  else if p.kind = 1 then ⟨⟨w.flow.lo - p.flow.hi, w.flow.hi - p.flow.lo⟩, w.warm⟩
  else if p.kind = 2 then ⟨w.flow, ⟨w.warm.lo + p.heat.lo / w.flow.hi, w.warm.hi + cl p.heat.hi w.flow.lo⟩⟩
  else ⟨w.flow, ⟨mixLo w.warm.lo (10000 - p.share.hi) (10000 - p.share.lo) p.warm.lo p.share.lo p.share.hi, mixHi w.warm.hi (10000 - p.share.hi) (10000 - p.share.lo) p.warm.hi p.share.lo p.share.hi⟩⟩
theorem within_eq (s : MSpan) (lo hi : Int) : stream_within s lo hi = some (decide (Okay lo hi s)) := by rw [stream_within, okay_bool]
theorem span_eq (s : MSpan) (lo hi : Int) : wormtubref05_span s lo hi = some (decide (Okay lo hi s)) := by rw [wormtubref05_span, okay_bool]
theorem in_eq (n lo hi : Int) : wormtubref05_in n lo hi = some (decide (lo ≤ n ∧ n ≤ hi)) := by rw [wormtubref05_in]; simp
theorem two_bool (p q : Prop) [Decidable p] [Decidable q] : ((bif decide p then some (decide q) else some default).bind fun r => some (decide p && r)) = some (decide (p ∧ q)) := by
  by_cases h : p <;> simp [h]
theorem validWater_eq (w : MWater) : stream_validWater w = some (decide (okW w)) := by
  unfold stream_validWater
  simp only [within_eq, Option.bind_some]
  exact two_bool _ _
theorem refWater_eq (w : MWater) : wormtubref05_Water w = some (decide (okW w)) := by
  unfold wormtubref05_Water
  simp only [span_eq, Option.bind_some]
  exact two_bool _ _
theorem joinValid_eq (j : MJoin) : stream_join_valid j = some (decide (Okay 1 1073741824 j.flow ∧ Okay 0 100000 j.warm)) := by
  unfold stream_join_valid
  simp only [within_eq, Option.bind_some]
  exact two_bool _ _
theorem drawValid_eq (j : MDraw) : stream_draw_valid j = some (decide (Okay 0 1073741824 j.flow)) := by
  unfold stream_draw_valid
  simp only [within_eq, Option.bind_some]
theorem addValid_eq (j : MAdd) : stream_add_valid j = some (decide (Okay 0 1099511627776 j.heat)) := by
  unfold stream_add_valid
  simp only [within_eq, Option.bind_some]
theorem airValid_eq (j : MAir) : stream_air_valid j = some (decide (Okay 0 100000 j.warm ∧ Okay 0 10000 j.share)) := by
  unfold stream_air_valid
  simp only [within_eq, Option.bind_some]
  exact two_bool _ _
theorem refPoint_eq (p : MPoint) : wormtubref05_Point p = some (decide (okP p)) := by
  unfold wormtubref05_Point okP
  by_cases k0 : p.kind = 0
  · rw [cond_t (by simp [k0])]
    simp only [span_eq, Option.bind_some, if_pos k0]
    exact two_bool _ _
  rw [cond_f (by simp [k0])]
  by_cases k1 : p.kind = 1
  · rw [cond_t (by simp [k1])]
    simp only [span_eq, Option.bind_some, if_neg k0, if_pos k1]
  rw [cond_f (by simp [k1])]
  by_cases k2 : p.kind = 2
  · rw [cond_t (by simp [k2])]
    simp only [span_eq, Option.bind_some, if_neg k0, if_neg k1, if_pos k2]
  rw [cond_f (by simp [k2])]
  by_cases k3 : p.kind = 3
  · rw [cond_t (by simp [k3])]
    simp only [span_eq, Option.bind_some, if_neg k0, if_neg k1, if_neg k2, if_pos k3]
    exact two_bool _ _
  rw [cond_f (by simp [k3])]
  simp only [if_neg k0, if_neg k1, if_neg k2, if_neg k3, decide_false]
theorem joinWts {w : MWater} {p : MPoint} (hw : okW w) (hp : Okay 1 1073741824 p.flow) : Wts w.flow.lo w.flow.hi p.flow.lo p.flow.hi := by
  obtain ⟨⟨_, _, _⟩, _⟩ := hw
  obtain ⟨_, _, _⟩ := hp
  exact ⟨by omega, by omega, by omega, by omega, by omega, by omega, by omega, by omega⟩
theorem airWts {p : MPoint} (hp : Okay 0 10000 p.share) : Wts (10000 - p.share.hi) (10000 - p.share.lo) p.share.lo p.share.hi := by
  obtain ⟨_, _, _⟩ := hp
  exact ⟨by omega, by omega, by omega, by omega, by omega, by omega, by omega, by omega⟩
/-- what lies behind: in order -/
theorem bh_ok {w : MWater} {p : MPoint} (hw : okW w) (hp : okP p) : (bh w p).flow.lo ≤ (bh w p).flow.hi ∧ (bh w p).flow.hi ≤ 2147483648 ∧ -1073741824 ≤ (bh w p).flow.lo ∧ 0 ≤ (bh w p).warm.lo ∧ (bh w p).warm.lo ≤ (bh w p).warm.hi ∧ (bh w p).warm.hi ≤ 1099511727776 := by
  have hW := hw
  obtain ⟨⟨f1, f2, f3⟩, ⟨t1, t2, t3⟩⟩ := hw
  unfold okP at hp
  unfold bh
  split at hp <;> rename_i k0
  · rw [if_pos k0]
    have H := mix_ok (joinWts hW hp.1) t1 t2 t3 hp.2.1 hp.2.2.1 hp.2.2.2
    obtain ⟨⟨_, _, _⟩, _⟩ := hp
    exact ⟨by simp only; omega, by simp only; omega, by simp only; omega, H.1, H.2.1, by simp only; omega⟩
  rw [if_neg k0]
  split at hp <;> rename_i k1
  · rw [if_pos k1]
    obtain ⟨_, _, _⟩ := hp
    exact ⟨by simp only; omega, by simp only; omega, by simp only; omega, t1, t2, by simp only; omega⟩
  rw [if_neg k1]
  split at hp <;> rename_i k2
  · rw [if_pos k2]
    obtain ⟨h1, h2, h3⟩ := hp
    have e1 := div_in h1 (show 0 < w.flow.hi by omega)
    have e2 : p.heat.lo / w.flow.hi ≤ cl p.heat.hi w.flow.lo := by
      refine Int.le_trans (floor_le (by omega) (show 0 < w.flow.lo by omega) ?_) (floor_ceil (by omega))
      exact Int.mul_le_mul h2 f2 (by omega) (by omega)
    have e3 : cl p.heat.hi w.flow.lo ≤ p.heat.hi := cl_of (by omega) (by have := Int.mul_le_mul_of_nonneg_left f1 (show 0 ≤ p.heat.hi by omega); omega)
    exact ⟨by simp only; omega, by simp only; omega, by simp only; omega, by simp only; omega, by simp only; omega, by simp only; omega⟩
  rw [if_neg k2]
  split at hp <;> rename_i k3
  · have H := mix_ok (airWts hp.2) t1 t2 t3 hp.1.1 hp.1.2.1 hp.1.2.2
    exact ⟨by simp only; omega, by simp only; omega, by simp only; omega, H.1, H.2.1, by simp only; omega⟩
  · exact hp.elim
theorem mix_eq {t f u g : Int} (t0 : 0 ≤ t) (t1 : t ≤ 100000) (u0 : 0 ≤ u) (u1 : u ≤ 100000) (f0 : 0 ≤ f) (f1 : f ≤ 1073741824) (g0 : 0 ≤ g) (g1 : g ≤ 1073741824) : wormtubref05_mix t f u g = some (t * f + u * g, f + g) := by
  have p1 := prod_in t0 t1 f0
  have p2 := prod_in u0 u1 g0
  rw [wormtubref05_mix, grd_pos ⟨by omega, by omega, by omega, by omega⟩]
theorem refUp_eq {a b : Int} (a0 : 0 ≤ a) (a1 : a ≤ 4611686018427387904) (b0 : 0 < b) (b1 : b ≤ 4611686018427387) : wormtubref05_up a b = some (cl a b) := by
  have := div_in (show 0 ≤ a + b - 1 by omega) b0
  rw [wormtubref05_up, tdiv_eq (by omega), grd_pos ⟨by omega, by omega, by omega, by omega⟩]
  rfl
theorem up_eq {a b : Int} (a0 : 0 ≤ a) (a1 : a ≤ 4611686018427387904) (b0 : 0 < b) (b1 : b ≤ 4611686018427387) : stream_up a b = some (cl a b) := by
  have := div_in (show 0 ≤ a + b - 1 by omega) b0
  rw [stream_up, tdiv_eq (by omega), grd_pos ⟨by omega, by omega, by omega, by omega⟩]
  rfl
theorem down_eq {a b : Int} (a0 : 0 ≤ a) (a1 : a ≤ 4611686018427387904) (b0 : 0 < b) : stream_down a b = some (a / b) := by
  have := div_in a0 b0
  rw [stream_down, tdiv_eq (by omega), grd_pos ⟨by omega, by omega⟩]
theorem betDown_eq {t u F G : Int} (t0 : 0 ≤ t) (t1 : t ≤ 100000) (u0 : 0 ≤ u) (u1 : u ≤ 100000) (f0 : 0 ≤ F) (f1 : F ≤ 1073741824) (g0 : 0 ≤ G) (g1 : G ≤ 1073741824) (h : 0 < F + G) : betweenDown ⟨G, F + G⟩ t u = some ((t * F + u * G) / (F + G)) := by
  have p1 := prod_in t0 t1 f0
  have p2 := prod_in u0 u1 g0
  unfold betweenDown
  simp only [show F + G - G = F by omega]
  rw [grd_pos ⟨by omega, by omega, by omega, by omega⟩, down_eq (by omega) (by omega) h]
  rfl
theorem betUp_eq {t u F G : Int} (t0 : 0 ≤ t) (t1 : t ≤ 100000) (u0 : 0 ≤ u) (u1 : u ≤ 100000) (f0 : 0 ≤ F) (f1 : F ≤ 1073741824) (g0 : 0 ≤ G) (g1 : G ≤ 1073741824) (h : 0 < F + G) : betweenUp ⟨G, F + G⟩ t u = some (cl (t * F + u * G) (F + G)) := by
  have p1 := prod_in t0 t1 f0
  have p2 := prod_in u0 u1 g0
  unfold betweenUp
  simp only [show F + G - G = F by omega]
  rw [grd_pos ⟨by omega, by omega, by omega, by omega⟩, up_eq (by omega) (by omega) h (by omega)]
  rfl
theorem toward_eq {a b c d : Int} {s o : MSpan} (h : Wts a b c d) (hs : Okay 0 100000 s) (ho : Okay 0 100000 o) : stream_toward s o ⟨c, b + c⟩ ⟨d, a + d⟩ = some ⟨mixLo s.lo a b o.lo c d, mixHi s.hi a b o.hi c d⟩ := by
  have H := h
  obtain ⟨a0, ab, b1, c0, cd, d1, ad, bc⟩ := h
  obtain ⟨s1, s2, s3⟩ := hs
  obtain ⟨o1, o2, o3⟩ := ho
  unfold stream_toward
  rw [bind_ok (betDown_eq (by omega) (by omega) (by omega) (by omega) (by omega) (by omega) (by omega) (by omega) bc),
    bind_ok (betDown_eq (by omega) (by omega) (by omega) (by omega) (by omega) (by omega) (by omega) (by omega) ad),
    bind_ok (betUp_eq (by omega) (by omega) (by omega) (by omega) (by omega) (by omega) (by omega) (by omega) bc),
    bind_ok (betUp_eq (by omega) (by omega) (by omega) (by omega) (by omega) (by omega) (by omega) (by omega) ad), min_mix H, max_mix H]
/-- the document's side -/
theorem refBehind_eq {w : MWater} {p : MPoint} (hw : okW w) (hp : okP p) : wormtubref05_behind w p = some (bh w p) := by
  have hW := hw
  obtain ⟨⟨f1, f2, f3⟩, ⟨t1, t2, t3⟩⟩ := hw
  unfold okP at hp
  unfold wormtubref05_behind bh
  split at hp <;> rename_i k0
  · rw [cond_t (by simp [k0]), if_pos k0]
    obtain ⟨⟨a1, a2, a3⟩, ⟨b1, b2, b3⟩⟩ := hp
    rw [grd_pos ⟨by omega, by omega⟩]
    unfold mixLo mixHi
    by_cases h1 : p.warm.lo < w.warm.lo
    · have q1 := mean_in (t := w.warm.lo) (u := p.warm.lo) (a := w.flow.lo) (d := p.flow.hi) (by omega) (by omega) (by omega) (by omega) (by omega) (by omega) (by omega)
      have p1 := prod_in (t := w.warm.lo) (M := 100000) (a := w.flow.lo) (by omega) (by omega) (by omega)
      have p2 := prod_in (t := p.warm.lo) (M := 100000) (a := p.flow.hi) (by omega) (by omega) (by omega)
      have p3 := div_in (a := w.warm.lo * w.flow.lo + p.warm.lo * p.flow.hi) (b := w.flow.lo + p.flow.hi) (by omega) (by omega)
      rw [cond_t (by simpa using h1), Option.bind_some, bind_ok (mix_eq (by omega) (by omega) (by omega) (by omega) (by omega) (by omega) (by omega) (by omega)), if_pos h1]
      simp only [tdiv_eq (show 0 ≤ w.warm.lo * w.flow.lo + p.warm.lo * p.flow.hi by omega)]
      rw [grd_pos ⟨by omega, by omega⟩]
      by_cases h2 : p.warm.hi < w.warm.hi
      · have p4 := prod_in (t := w.warm.hi) (M := 100000) (a := w.flow.hi) (by omega) (by omega) (by omega)
        have p5 := prod_in (t := p.warm.hi) (M := 100000) (a := p.flow.lo) (by omega) (by omega) (by omega)
        rw [cond_t (by simpa using h2), Option.bind_some, bind_ok (mix_eq (by omega) (by omega) (by omega) (by omega) (by omega) (by omega) (by omega) (by omega)), if_pos h2, bind_ok (refUp_eq (by simp only; omega) (by simp only; omega) (by simp only; omega) (by simp only; omega))]
      · have p4 := prod_in (t := w.warm.hi) (M := 100000) (a := w.flow.lo) (by omega) (by omega) (by omega)
        have p5 := prod_in (t := p.warm.hi) (M := 100000) (a := p.flow.hi) (by omega) (by omega) (by omega)
        rw [cond_f (by simpa using h2), Option.bind_some, bind_ok (mix_eq (by omega) (by omega) (by omega) (by omega) (by omega) (by omega) (by omega) (by omega)), if_neg h2, bind_ok (refUp_eq (by simp only; omega) (by simp only; omega) (by simp only; omega) (by simp only; omega))]
    · have p1 := prod_in (t := w.warm.lo) (M := 100000) (a := w.flow.hi) (by omega) (by omega) (by omega)
      have p2 := prod_in (t := p.warm.lo) (M := 100000) (a := p.flow.lo) (by omega) (by omega) (by omega)
      have p3 := div_in (a := w.warm.lo * w.flow.hi + p.warm.lo * p.flow.lo) (b := w.flow.hi + p.flow.lo) (by omega) (by omega)
      rw [cond_f (by simpa using h1), Option.bind_some, bind_ok (mix_eq (by omega) (by omega) (by omega) (by omega) (by omega) (by omega) (by omega) (by omega)), if_neg h1]
      simp only [tdiv_eq (show 0 ≤ w.warm.lo * w.flow.hi + p.warm.lo * p.flow.lo by omega)]
      rw [grd_pos ⟨by omega, by omega⟩]
      by_cases h2 : p.warm.hi < w.warm.hi
      · have p4 := prod_in (t := w.warm.hi) (M := 100000) (a := w.flow.hi) (by omega) (by omega) (by omega)
        have p5 := prod_in (t := p.warm.hi) (M := 100000) (a := p.flow.lo) (by omega) (by omega) (by omega)
        rw [cond_t (by simpa using h2), Option.bind_some, bind_ok (mix_eq (by omega) (by omega) (by omega) (by omega) (by omega) (by omega) (by omega) (by omega)), if_pos h2, bind_ok (refUp_eq (by simp only; omega) (by simp only; omega) (by simp only; omega) (by simp only; omega))]
      · have p4 := prod_in (t := w.warm.hi) (M := 100000) (a := w.flow.lo) (by omega) (by omega) (by omega)
        have p5 := prod_in (t := p.warm.hi) (M := 100000) (a := p.flow.hi) (by omega) (by omega) (by omega)
        rw [cond_f (by simpa using h2), Option.bind_some, bind_ok (mix_eq (by omega) (by omega) (by omega) (by omega) (by omega) (by omega) (by omega) (by omega)), if_neg h2, bind_ok (refUp_eq (by simp only; omega) (by simp only; omega) (by simp only; omega) (by simp only; omega))]
  rw [cond_f (by simp [k0]), if_neg k0]
  split at hp <;> rename_i k1
  · obtain ⟨a1, a2, a3⟩ := hp
    rw [cond_t (by simp [k1]), if_pos k1, grd_pos ⟨by omega, by omega⟩]
  rw [cond_f (by simp [k1]), if_neg k1]
  split at hp <;> rename_i k2
  · obtain ⟨a1, a2, a3⟩ := hp
    have e1 := div_in a1 (show 0 < w.flow.hi by omega)
    have e3 : cl p.heat.hi w.flow.lo ≤ p.heat.hi := cl_of (by omega) (by have := Int.mul_le_mul_of_nonneg_left f1 (show 0 ≤ p.heat.hi by omega); omega)
    have e4 : 0 ≤ cl p.heat.hi w.flow.lo := Int.ediv_nonneg (by omega) (by omega)
    rw [cond_t (by simp [k2]), if_pos k2, tdiv_eq (by omega), grd_pos ⟨by omega, by omega, by omega⟩, bind_ok (refUp_eq (by omega) (by omega) (by omega) (by omega)), grd_pos (by omega)]
  rw [cond_f (by simp [k2]), if_neg k2]
  split at hp <;> rename_i k3
  · obtain ⟨⟨b1, b2, b3⟩, ⟨a1, a2, a3⟩⟩ := hp
    rw [cond_t (by simp [k3])]
    unfold mixLo mixHi
    have P := fun (x y : Int) (x0 : 0 ≤ x) (x1 : x ≤ 100000) (y0 : 0 ≤ y) (y1 : y ≤ 10000) => prod_in (t := x) (M := 100000) (a := y) x0 x1 y0
    by_cases h1 : p.warm.lo < w.warm.lo
    · have p1 := P w.warm.lo (10000 - p.share.hi) (by omega) (by omega) (by omega) (by omega)
      have p2 := P p.warm.lo p.share.hi (by omega) (by omega) (by omega) (by omega)
      have p3 := div_in (a := w.warm.lo * (10000 - p.share.hi) + p.warm.lo * p.share.hi) (b := 10000 - p.share.hi + p.share.hi) (by omega) (by omega)
      rw [cond_t (by simpa using h1), Option.bind_some, grd_pos (by omega), bind_ok (mix_eq (by omega) (by omega) (by omega) (by omega) (by omega) (by omega) (by omega) (by omega)), if_pos h1]
      simp only [tdiv_eq (show 0 ≤ w.warm.lo * (10000 - p.share.hi) + p.warm.lo * p.share.hi by omega)]
      rw [grd_pos ⟨by omega, by omega⟩]
      by_cases h2 : p.warm.hi < w.warm.hi
      · have p4 := P w.warm.hi (10000 - p.share.lo) (by omega) (by omega) (by omega) (by omega)
        have p5 := P p.warm.hi p.share.lo (by omega) (by omega) (by omega) (by omega)
        rw [cond_t (by simpa using h2), Option.bind_some, grd_pos (by omega), bind_ok (mix_eq (by omega) (by omega) (by omega) (by omega) (by omega) (by omega) (by omega) (by omega)), if_pos h2, bind_ok (refUp_eq (by simp only; omega) (by simp only; omega) (by simp only; omega) (by simp only; omega))]
      · have p4 := P w.warm.hi (10000 - p.share.hi) (by omega) (by omega) (by omega) (by omega)
        have p5 := P p.warm.hi p.share.hi (by omega) (by omega) (by omega) (by omega)
        rw [cond_f (by simpa using h2), Option.bind_some, grd_pos (by omega), bind_ok (mix_eq (by omega) (by omega) (by omega) (by omega) (by omega) (by omega) (by omega) (by omega)), if_neg h2, bind_ok (refUp_eq (by simp only; omega) (by simp only; omega) (by simp only; omega) (by simp only; omega))]
    · have p1 := P w.warm.lo (10000 - p.share.lo) (by omega) (by omega) (by omega) (by omega)
      have p2 := P p.warm.lo p.share.lo (by omega) (by omega) (by omega) (by omega)
      have p3 := div_in (a := w.warm.lo * (10000 - p.share.lo) + p.warm.lo * p.share.lo) (b := 10000 - p.share.lo + p.share.lo) (by omega) (by omega)
      rw [cond_f (by simpa using h1), Option.bind_some, grd_pos (by omega), bind_ok (mix_eq (by omega) (by omega) (by omega) (by omega) (by omega) (by omega) (by omega) (by omega)), if_neg h1]
      simp only [tdiv_eq (show 0 ≤ w.warm.lo * (10000 - p.share.lo) + p.warm.lo * p.share.lo by omega)]
      rw [grd_pos ⟨by omega, by omega⟩]
      by_cases h2 : p.warm.hi < w.warm.hi
      · have p4 := P w.warm.hi (10000 - p.share.lo) (by omega) (by omega) (by omega) (by omega)
        have p5 := P p.warm.hi p.share.lo (by omega) (by omega) (by omega) (by omega)
        rw [cond_t (by simpa using h2), Option.bind_some, grd_pos (by omega), bind_ok (mix_eq (by omega) (by omega) (by omega) (by omega) (by omega) (by omega) (by omega) (by omega)), if_pos h2, bind_ok (refUp_eq (by simp only; omega) (by simp only; omega) (by simp only; omega) (by simp only; omega))]
      · have p4 := P w.warm.hi (10000 - p.share.hi) (by omega) (by omega) (by omega) (by omega)
        have p5 := P p.warm.hi p.share.hi (by omega) (by omega) (by omega) (by omega)
        rw [cond_f (by simpa using h2), Option.bind_some, grd_pos (by omega), bind_ok (mix_eq (by omega) (by omega) (by omega) (by omega) (by omega) (by omega) (by omega) (by omega)), if_neg h2, bind_ok (refUp_eq (by simp only; omega) (by simp only; omega) (by simp only; omega) (by simp only; omega))]
  · exact hp.elim
end Go.Proofs.Ytlcccomdijdkaaa
namespace Go.Proofs.Ytlcccomdijdkaaa
open Go.RowKit Go.Proofs.Try

/-- what stops the walk at a point: 0 is nothing -/
def stepS (c : MWater) (p : MPoint) : Int := if ¬ okP p then 1 else if (bh c p).flow.lo < 1 then 10 else if 1073741824 < (bh c p).flow.hi ∨ 100000 < (bh c p).warm.hi then 12 else 0
def flowS : MWater → List MPoint → List MWater × Int
  | _, [] => ([], 0)
  | c, p :: r => if stepS c p = 0 then (bh c p :: (flowS (bh c p) r).1, (flowS (bh c p) r).2) else ([], stepS c p)
theorem flowS_cons_ok {c : MWater} {p : MPoint} {r : List MPoint} (h : stepS c p = 0) : flowS c (p :: r) = (bh c p :: (flowS (bh c p) r).1, (flowS (bh c p) r).2) := by rw [flowS, if_pos h]
theorem flowS_cons_no {c : MWater} {p : MPoint} {r : List MPoint} (h : ¬ stepS c p = 0) : flowS c (p :: r) = ([], stepS c p) := by rw [flowS, if_neg h]
theorem flowS_len : ∀ (l : List MPoint) (c : MWater), (flowS c l).1.length ≤ l.length ∧ ((flowS c l).2 = 0 → (flowS c l).1.length = l.length)
  | [], _ => ⟨Nat.le_refl _, fun _ => rfl⟩
  | p :: r, c => by
    by_cases h : stepS c p = 0
    · rw [flowS_cons_ok h]
      have := flowS_len r (bh c p)
      exact ⟨by simp only [List.length_cons]; omega, fun h2 => by simp only [List.length_cons]; have := this.2 h2; omega⟩
    · rw [flowS_cons_no h]
      exact ⟨by simp, fun h2 => absurd h2 h⟩
theorem stepS_ok {c : MWater} {p : MPoint} (hc : okW c) (h : stepS c p = 0) : okP p ∧ okW (bh c p) := by
  unfold stepS at h
  by_cases hp : okP p
  · rw [if_neg (by simpa using hp)] at h
    have := bh_ok hc hp
    by_cases h1 : (bh c p).flow.lo < 1
    · rw [if_pos h1] at h; cases h
    · rw [if_neg h1] at h
      by_cases h2 : 1073741824 < (bh c p).flow.hi ∨ 100000 < (bh c p).warm.hi
      · rw [if_pos h2] at h; cases h
      · exact ⟨hp, ⟨by omega, by omega, by omega⟩, ⟨by omega, by omega, by omega⟩⟩
  · rw [if_pos hp] at h; cases h
/-- what a pass comes to -/
def passS (c : MWater) (pre : List MWater) (p : MPoint) : MWater × List MWater × Int :=
  if ¬ okP p then (c, pre, 1) else (bh c p, if stepS c p = 0 then pre ++ [bh c p] else pre, stepS c p)
theorem tail_eq {c : MWater} {p : MPoint} {pre : List MWater} (hp : okP p) (hl : pre.length + 1 ≤ 1000000) :
    (bif decide ((bh c p).flow.lo < 1) then some ((MWater.mk (MSpan.mk (bh c p).flow.lo (bh c p).flow.hi) (MSpan.mk (bh c p).warm.lo (bh c p).warm.hi)), pre, (10 : Int)) else
      ((bif (decide (1073741824 < (bh c p).flow.hi) || decide (100000 < (bh c p).warm.hi)) then some ((MWater.mk (MSpan.mk (bh c p).flow.lo (bh c p).flow.hi) (MSpan.mk (bh c p).warm.lo (bh c p).warm.hi)), pre, 12) else
        (grd ((pre.length + 1 ≤ 1000000)) <| some ((MWater.mk (MSpan.mk (bh c p).flow.lo (bh c p).flow.hi) (MSpan.mk (bh c p).warm.lo (bh c p).warm.hi)), (pre ++ [(MWater.mk (MSpan.mk (bh c p).flow.lo (bh c p).flow.hi) (MSpan.mk (bh c p).warm.lo (bh c p).warm.hi))]), 0))))) = some (passS c pre p) := by
  have e : stepS c p = if (bh c p).flow.lo < 1 then 10 else if 1073741824 < (bh c p).flow.hi ∨ 100000 < (bh c p).warm.hi then 12 else 0 := by
    unfold stepS
    rw [if_neg (by simpa using hp)]
  unfold passS
  rw [if_neg (by simpa using hp), e]
  by_cases h1 : (bh c p).flow.lo < 1
  · rw [cond_t (by simpa using h1), if_pos h1, if_neg (by decide)]
  · rw [cond_f (by simpa using h1), if_neg h1]
    by_cases h2 : 1073741824 < (bh c p).flow.hi ∨ 100000 < (bh c p).warm.hi
    · rw [cond_t (by simpa using h2), if_pos h2, if_neg (by decide)]
    · rw [cond_f (by simpa using h2), if_neg h2, grd_pos hl, if_pos rfl]
theorem not_dec {p : Prop} [Decidable p] (h : ¬ p) : (!decide p) = true := by simp [h]
theorem passS_ok {c : MWater} {pre : List MWater} {p : MPoint} (hp : okP p) (hs : stepS c p = 0) : passS c pre p = (bh c p, pre ++ [bh c p], 0) := by
  unfold passS
  rw [if_neg (by simpa using hp), if_pos hs, hs]
theorem passS_no {c : MWater} {pre : List MWater} {p : MPoint} (hs : ¬ stepS c p = 0) : (passS c pre p).2 = (pre, stepS c p) := by
  unfold passS
  by_cases hp : okP p
  · rw [if_neg (by simpa using hp), if_neg hs]
  · rw [if_pos hp]
    unfold stepS
    rw [if_pos hp]
theorem pass_eq {c : MWater} {pre : List MWater} {p : MPoint} (hc : okW c) (hl : pre.length + 1 ≤ 1000000) : passM c pre p = some (passS c pre p) := by
  have hC := hc
  obtain ⟨⟨f1, f2, f3⟩, ⟨t1, t2, t3⟩⟩ := hc
  unfold passM
  by_cases hp : okP p
  · have hP := hp
    have T := tail_eq (c := c) (pre := pre) hp hl
    unfold okP at hp
    split at hp <;> rename_i k0
    · rw [if_pos k0]
      have W := joinWts hC hp.1
      have hb : stream_join_behind (MJoin.mk (MSpan.mk p.flow.lo p.flow.hi) (MSpan.mk p.warm.lo p.warm.hi)) (MWater.mk (MSpan.mk c.flow.lo c.flow.hi) (MSpan.mk c.warm.lo c.warm.hi)) = some (bh c p) := by
        obtain ⟨⟨a1, a2, a3⟩, b⟩ := hp
        unfold stream_join_behind
        simp only
        rw [grd_pos ⟨by omega, by omega⟩, grd_pos (by omega), grd_pos (by omega), bind_ok (toward_eq W ⟨t1, t2, t3⟩ b)]
        unfold bh
        rw [if_pos k0]
      unfold pass0
      rw [bind_ok (joinValid_eq _), cond_f (by simpa using hp), bind_ok hb]
      exact T
    rw [if_neg k0]
    split at hp <;> rename_i k1
    · rw [if_pos k1]
      have hb : stream_draw_behind (MDraw.mk (MSpan.mk p.flow.lo p.flow.hi)) (MWater.mk (MSpan.mk c.flow.lo c.flow.hi) (MSpan.mk c.warm.lo c.warm.hi)) = some (bh c p) := by
        obtain ⟨a1, a2, a3⟩ := hp
        unfold stream_draw_behind
        simp only
        rw [grd_pos ⟨by omega, by omega⟩]
        unfold bh
        rw [if_neg k0, if_pos k1]
      unfold pass1
      rw [bind_ok (drawValid_eq _), cond_f (by simpa using hp), bind_ok hb]
      exact T
    rw [if_neg k1]
    split at hp <;> rename_i k2
    · rw [if_pos k2]
      have hb : stream_add_behind (MAdd.mk (MSpan.mk p.heat.lo p.heat.hi)) (MWater.mk (MSpan.mk c.flow.lo c.flow.hi) (MSpan.mk c.warm.lo c.warm.hi)) = some (bh c p) := by
        obtain ⟨a1, a2, a3⟩ := hp
        have e1 := div_in a1 (show 0 < c.flow.hi by omega)
        have e3 : cl p.heat.hi c.flow.lo ≤ p.heat.hi := cl_of (by omega) (by have := Int.mul_le_mul_of_nonneg_left f1 (show 0 ≤ p.heat.hi by omega); omega)
        have e4 : 0 ≤ cl p.heat.hi c.flow.lo := Int.ediv_nonneg (by omega) (by omega)
        unfold stream_add_behind
        rw [bind_ok (down_eq (by simp only; omega) (by simp only; omega) (by simp only; omega))]
        simp only
        rw [grd_pos (by omega), bind_ok (up_eq (by omega) (by omega) (by omega) (by omega)), grd_pos (by omega)]
        unfold bh
        rw [if_neg k0, if_neg k1, if_pos k2]
      unfold pass2
      rw [bind_ok (addValid_eq _), cond_f (by simpa using hp), bind_ok hb]
      exact T
    rw [if_neg k2]
    split at hp <;> rename_i k3
    · rw [if_pos k3]
      have W := airWts hp.2
      have hb : stream_air_behind (MAir.mk (MSpan.mk p.warm.lo p.warm.hi) (MSpan.mk p.share.lo p.share.hi)) (MWater.mk (MSpan.mk c.flow.lo c.flow.hi) (MSpan.mk c.warm.lo c.warm.hi)) = some (bh c p) := by
        have := toward_eq (s := ⟨c.warm.lo, c.warm.hi⟩) (o := ⟨p.warm.lo, p.warm.hi⟩) W ⟨t1, t2, t3⟩ hp.1
        rw [show 10000 - p.share.lo + p.share.lo = 10000 by omega, show 10000 - p.share.hi + p.share.hi = 10000 by omega] at this
        unfold stream_air_behind
        simp only
        rw [bind_ok this]
        unfold bh
        rw [if_neg k0, if_neg k1, if_neg k2]
      unfold pass3
      rw [bind_ok (airValid_eq _), cond_f (by simpa using hp), bind_ok hb]
      exact T
    · exact hp.elim
  · unfold passS
    rw [if_pos hp]
    unfold okP at hp
    by_cases k0 : p.kind = 0
    · rw [if_pos k0] at hp ⊢
      unfold pass0
      rw [bind_ok (joinValid_eq _), cond_t (not_dec hp)]
    rw [if_neg k0] at hp ⊢
    by_cases k1 : p.kind = 1
    · rw [if_pos k1] at hp ⊢
      unfold pass1
      rw [bind_ok (drawValid_eq _), cond_t (by simpa using hp)]
    rw [if_neg k1] at hp ⊢
    by_cases k2 : p.kind = 2
    · rw [if_pos k2] at hp ⊢
      unfold pass2
      rw [bind_ok (addValid_eq _), cond_t (by simpa using hp)]
    rw [if_neg k2] at hp ⊢
    by_cases k3 : p.kind = 3
    · rw [if_pos k3] at hp ⊢
      unfold pass3
      rw [bind_ok (airValid_eq _), cond_t (not_dec hp)]
    rw [if_neg k3]
    unfold passX pointOfX
    rw [cond_f (by simpa using k0), cond_f (by simpa using k1), cond_f (by simpa using k2), cond_f (by simpa using k3)]
    rfl
theorem follow_eq : ∀ (l : List MPoint) (c : MWater) (pre : List MWater), okW c → pre.length + l.length ≤ 1000000 → followM c pre l = some (pre ++ (flowS c l).1, (flowS c l).2)
  | [], c, pre, _, _ => by rw [followM, flowS]; simp
  | p :: r, c, pre, hc, hl => by
    simp only [List.length_cons] at hl
    rw [followM, bind_ok (pass_eq hc (by omega))]
    by_cases hs : stepS c p = 0
    · obtain ⟨hp, hb⟩ := stepS_ok hc hs
      rw [passS_ok hp hs, flowS_cons_ok hs]
      simp only [if_true]
      rw [follow_eq r (bh c p) (pre ++ [bh c p]) hb (by simp only [List.length_append, List.length_cons, List.length_nil]; omega)]
      simp
    · rw [flowS_cons_no hs]
      simp only [passS_no hs, hs, if_false, List.append_nil]
def FlowS (first : MWater) (l : List MPoint) : List MWater × Int × Int :=
  if ¬ okW first then ([], 0, 1) else if 64 < l.length then ([], 0, 3) else
  if (flowS first l).2 ≠ 0 then ([], (flowS first l).1.length, (flowS first l).2) else ((flowS first l).1, (flowS first l).1.length, 0)
theorem Flow_eq (first : MWater) (l : List MPoint) : stream_Flow first l = some (FlowS first l) := by
  unfold stream_Flow FlowS
  rw [bind_ok (validWater_eq _)]
  by_cases h : okW first
  · rw [cond_f (by simpa using h), if_neg (by simpa using h)]
    by_cases h1 : 64 < l.length
    · rw [cond_t (by simp; omega), if_pos h1]
    · rw [cond_f (by simp; omega), if_neg h1, grd_pos (by omega), bind_ok (follow_eq l first [] h (by simp only [List.length_nil]; omega))]
      simp only [List.nil_append]
      by_cases h2 : (flowS first l).2 = 0
      · rw [cond_f (by simpa using h2), if_neg (by simpa using h2)]
      · rw [cond_t (by simpa using h2), if_pos h2]
  · rw [cond_t (by simpa using h), if_pos h]
/-- the document's side -/
theorem refLoop_eq (l : List MPoint) (hl : l.length ≤ 64) : ∀ (n i : Nat) (c : MWater) (ws : List MWater), okW c → i ≤ l.length → l.length < i + n → ws.length = i →
    wormtubref05_flow_l1 l n ((i : Int), c.flow.lo, c.flow.hi, c.warm.lo, c.warm.hi, ws) = some (if (flowS c (l.drop i)).2 ≠ 0 then Lp.ret ([], ((i + (flowS c (l.drop i)).1.length : Nat) : Int), (flowS c (l.drop i)).2) else Lp.done (ws ++ (flowS c (l.drop i)).1))
  | 0, i, c, ws, hc, hi, hn, hw => by omega
  | n + 1, i, c, ws, hc, hi, hn, hw => by
    rw [wormtubref05_flow_l1]
    simp only
    by_cases hlt : i < l.length
    · rw [cond_t (by simpa using hlt), grd_pos ⟨by omega, by omega⟩]
      have hd : l.drop i = l.getD i default :: l.drop (i + 1) := by
        rw [List.drop_eq_getElem_cons hlt]
        simp [List.getD, hlt]
      rw [hd]
      simp only [Int.toNat_natCast]
      generalize l.getD i default = p
      rw [bind_ok (refPoint_eq _)]
      by_cases hp : okP p
      · rw [cond_f (by simpa using hp), bind_ok (refBehind_eq hc hp)]
        have e : stepS c p = if (bh c p).flow.lo < 1 then 10 else if 1073741824 < (bh c p).flow.hi ∨ 100000 < (bh c p).warm.hi then 12 else 0 := by
          unfold stepS
          rw [if_neg (by simpa using hp)]
        by_cases h1 : (bh c p).flow.lo < 1
        · rw [if_pos h1] at e
          rw [cond_t (by simpa using h1), flowS_cons_no (by rw [e]; decide), e]
          rfl
        · rw [if_neg h1] at e
          by_cases h2 : 1073741824 < (bh c p).flow.hi ∨ 100000 < (bh c p).warm.hi
          · rw [if_pos h2] at e
            rw [cond_f (by simpa using h1), cond_t (by simpa using h2), flowS_cons_no (by rw [e]; decide), e]
            rfl
          · rw [if_neg h2] at e
            rw [cond_f (by simpa using h1), cond_f (by simpa using h2), flowS_cons_ok e, grd_pos (by omega), grd_pos (by omega)]
            have ih := refLoop_eq l hl n (i + 1) (bh c p) (ws ++ [bh c p]) (stepS_ok hc e).2 (by omega) (by omega) (by simp [hw])
            rw [show (((i + 1 : Nat)) : Int) = (i : Int) + 1 by omega] at ih
            refine Eq.trans ih ?_
            simp only [List.length_cons, List.append_assoc, List.singleton_append]
            split <;> simp <;> omega
      · have e : stepS c p = 1 := by unfold stepS; rw [if_pos hp]
        rw [cond_t (by simpa using hp), flowS_cons_no (by rw [e]; decide), e]
        rfl
    · rw [cond_f (by simpa using hlt)]
      have : l.drop i = [] := List.drop_eq_nil_of_le (by omega)
      rw [this, flowS]
      simp
theorem refFlow_eq {fuel : Nat} (hf : 65 < fuel) (first : MWater) (l : List MPoint) : wormtubref05_Flow fuel first l = some (FlowS first l) := by
  unfold wormtubref05_Flow FlowS
  rw [bind_ok (refWater_eq _)]
  by_cases h : okW first
  · rw [cond_f (by simpa using h), if_neg (by simpa using h)]
    by_cases h1 : 64 < l.length
    · rw [cond_t (by simp; omega), if_pos h1]
    · rw [cond_f (by simp; omega), if_neg h1]
      unfold wormtubref05_flow
      have hr : wormtubref05_flow_l1 l fuel (0, first.flow.lo, first.flow.hi, first.warm.lo, first.warm.hi, []) = _ := refLoop_eq l (by omega) fuel 0 first [] h (by omega) (by omega) rfl
      rw [List.drop_zero] at hr
      simp only
      rw [hr]
      simp only [Option.bind_some]
      have hlen := flowS_len l first
      by_cases h2 : (flowS first l).2 = 0
      · rw [if_neg (by simpa using h2), if_neg (by simpa using h2)]
        simp [Lp.go, wormtubref05_flow_k1, hlen.2 h2]
      · rw [if_pos h2, if_pos h2]
        simp [Lp.go]
  · rw [cond_t (by simpa using h), if_pos h]
end Go.Proofs.Ytlcccomdijdkaaa
namespace Go.Proofs.Ytlcccomdijdkaaa
open Go.RowKit Go.Proofs.Try

theorem pick_ok {s : MSpan} {b : Int} (h1 : 0 ≤ s.lo) (h2 : s.lo ≤ s.hi) (h3 : s.hi ≤ 4611686018427387903) (hb : 0 ≤ b ∧ b ≤ 4611686018427387903) : ∃ v, wormtublaw05_pick s b = some v ∧ s.lo ≤ v ∧ v ≤ s.hi := by
  have hm := Int.emod_nonneg b (b := s.hi - s.lo + 1) (by omega)
  have hm2 := Int.emod_lt_of_pos b (b := s.hi - s.lo + 1) (by omega)
  refine ⟨s.lo + b % (s.hi - s.lo + 1), ?_, by omega, by omega⟩
  rw [wormtublaw05_pick, tmod_eq hb.1]
  exact grd_pos ⟨by omega, by omega, by omega, by omega, by omega⟩ _
/-- a mean is no lower than the lowest, and no higher than the highest -/
theorem low_mean {a b c d t u F G : Int} (h : Wts a b c d) (h1 : a ≤ F) (h2 : F ≤ b) (h3 : c ≤ G) (h4 : G ≤ d) (_ : 0 < F + G) : mixLo t a b u c d * (F + G) ≤ t * F + u * G := by
  have k1 : a * G ≤ F * d := Int.mul_le_mul h1 h4 (by have := h.c0; omega) (by have := h.a0; omega)
  have k2 : F * c ≤ b * G := Int.mul_le_mul h2 h3 h.c0 (by have := h.a0; have := h.ab; omega)
  unfold mixLo
  split <;> rename_i hu
  · refine Int.le_of_mul_le_mul_right ?_ h.ad
    have e := mean_le (t := t) (u := u) (F1 := a) (G1 := d) (F2 := F) (G2 := G) (Int.mul_le_mul_of_nonneg_left k1 (by omega))
    have e2 := Int.mul_le_mul_of_nonneg_right (div_mul (a := t * a + u * d) h.ad).1 (show 0 ≤ F + G by omega)
    rw [Int.mul_right_comm]
    exact Int.le_trans e2 e
  · refine Int.le_of_mul_le_mul_right ?_ h.bc
    have e := mean_le (t := t) (u := u) (F1 := b) (G1 := c) (F2 := F) (G2 := G) (Int.mul_le_mul_of_nonpos_left (by omega) k2)
    have e2 := Int.mul_le_mul_of_nonneg_right (div_mul (a := t * b + u * c) h.bc).1 (show 0 ≤ F + G by omega)
    rw [Int.mul_right_comm]
    exact Int.le_trans e2 e
theorem high_mean {a b c d t u F G : Int} (h : Wts a b c d) (h1 : a ≤ F) (h2 : F ≤ b) (h3 : c ≤ G) (h4 : G ≤ d) (_ : 0 < F + G) : t * F + u * G ≤ mixHi t a b u c d * (F + G) := by
  have k1 : a * G ≤ F * d := Int.mul_le_mul h1 h4 (by have := h.c0; omega) (by have := h.a0; omega)
  have k2 : F * c ≤ b * G := Int.mul_le_mul h2 h3 h.c0 (by have := h.a0; have := h.ab; omega)
  unfold mixHi
  split <;> rename_i hu
  · refine Int.le_of_mul_le_mul_right ?_ h.bc
    have e := mean_le (t := t) (u := u) (F1 := F) (G1 := G) (F2 := b) (G2 := c) (Int.mul_le_mul_of_nonneg_left k2 (by omega))
    have e2 := Int.mul_le_mul_of_nonneg_right (cl_mul (N := t * b + u * c) h.bc) (show 0 ≤ F + G by omega)
    rw [Int.mul_right_comm (cl _ _)]
    exact Int.le_trans e e2
  · refine Int.le_of_mul_le_mul_right ?_ h.ad
    have e := mean_le (t := t) (u := u) (F1 := F) (G1 := G) (F2 := a) (G2 := d) (Int.mul_le_mul_of_nonpos_left (by omega) k1)
    have e2 := Int.mul_le_mul_of_nonneg_right (cl_mul (N := t * a + u * d) h.ad) (show 0 ≤ F + G by omega)
    rw [Int.mul_right_comm (cl _ _)]
    exact Int.le_trans e e2
end Go.Proofs.Ytlcccomdijdkaaa
namespace Go.Proofs.Ytlcccomdijdkaaa
open Go.RowKit

variable {P : Program} {X : Ctx} {E : Env} {a : Act} {w : World} {st : SState}

theorem pure_idxSm {lay : Lay} (hl : LayOK P lay) {B t g n j N es : Nat} {ag : Bool} {m : MState} {x y : Operand} {k : IntKind} {z : List Value} {eq : Bool} {by' : Nat} (ht : look lay t = some ⟨.arr N es ag, n, z, eq, by'⟩) (hj : j < N) : (Ob.pure m (.indexAddr t x y) [.own g 0, .v (.int k j)] (.own g (j * es))).holds P B := by
  intro E w R ρ dst ty pos aft gd _ hx
  have hx' : ρ x = .pointer (some ⟨E.ρ g, 0, none⟩) ∧ ρ y = .int k j := by simpa [Op.operands, SV.vals, SV.val] using hx
  obtain ⟨u, hu, hmm⟩ := (hl t _ ht).under
  obtain ⟨e, rfl, hkn, hes, _⟩ := hmm
  simp only [execOp, Instr.indexAt, hx'.1, hx'.2, asIntOf, Sem.run_bind, Sem.run_pure, Result.andThen_ok, run_underlying hu, Instr.sureAddr]
  rw [if_pos (by omega)]
  simp only [Sem.run_bind, knownB.run_size hkn, Result.andThen_ok, Sem.run_pure, ← hes, add_plain', SV.val, Int.toNat_natCast, Nat.zero_add]
end Go.Proofs.Ytlcccomdijdkaaa
namespace Go.Proofs.Ytlcccomdijdkaaa
open Go.RowKit Go.Proofs.Try

def wormtublaw05_StreamStep (first : MWater) (p : MPoint) (by' : List Int) : Option Bool :=
(stream_Flow (MWater.mk (MSpan.mk first.flow.lo first.flow.hi) (MSpan.mk first.warm.lo first.warm.hi)) ([(MPoint.mk p.kind (MSpan.mk p.flow.lo p.flow.hi) (MSpan.mk p.warm.lo p.warm.hi) (MSpan.mk p.heat.lo p.heat.hi) (MSpan.mk p.share.lo p.share.hi))])).bind fun (r1 : (List MWater × Int × Int)) =>
(bif (r1.2.2 != 0) then
(((bif ((((r1.1.length : Nat) : Int) == 0) && (r1.2.1 == 0)) then wormtublaw05_awake else some default)).bind fun (r2 : Bool) =>
some (((((r1.1.length : Nat) : Int) == 0) && (r1.2.1 == 0)) && r2))
else
((wormtubref05_Water (MWater.mk (MSpan.mk first.flow.lo first.flow.hi) (MSpan.mk first.warm.lo first.warm.hi))).bind fun (r3 : Bool) =>
((bif (!(!r3)) then wormtubref05_Point (MPoint.mk p.kind (MSpan.mk p.flow.lo p.flow.hi) (MSpan.mk p.warm.lo p.warm.hi) (MSpan.mk p.heat.lo p.heat.hi) (MSpan.mk p.share.lo p.share.hi)) else some default)).bind fun (r4 : Bool) =>
(bif ((((!r3) || (!r4)) || (r1.2.1 != 1)) || (((r1.1.length : Nat) : Int) != 1)) then
(some false)
else
((wormtublaw05_pick (MSpan.mk first.flow.lo first.flow.hi) (by'.getD 0 0)).bind fun (r5 : Int) =>
(wormtublaw05_pick (MSpan.mk first.warm.lo first.warm.hi) (by'.getD 1 0)).bind fun (r6 : Int) =>
(bif (p.kind == 0) then
((wormtublaw05_pick (MSpan.mk p.flow.lo p.flow.hi) (by'.getD 2 0)).bind fun (r7 : Int) =>
(wormtublaw05_pick (MSpan.mk p.warm.lo p.warm.hi) (by'.getD 3 0)).bind fun (r8 : Int) =>
grd (InI64 (r5 + r7)) <|
grd (InI64 (r5 * r6) ∧ InI64 (r7 * r8) ∧ InI64 ((r5 * r6) + (r7 * r8)) ∧ InI64 (r5 + r7)) <|
some ((r5 + r7), ((r5 * r6) + (r7 * r8)), (r5 + r7)))
else
((bif (p.kind == 1) then
((wormtublaw05_pick (MSpan.mk p.flow.lo p.flow.hi) (by'.getD 2 0)).bind fun (r9 : Int) =>
grd (InI64 (r5 - r9)) <|
some ((r5 - r9), r6, 1))
else
((bif (p.kind == 2) then
(grd (InI64 (r5 * r6)) <|
(wormtublaw05_pick (MSpan.mk p.heat.lo p.heat.hi) (by'.getD 2 0)).bind fun (r10 : Int) =>
grd (InI64 ((r5 * r6) + r10)) <|
some (r5, ((r5 * r6) + r10), r5))
else
((bif (p.kind == 3) then
((wormtublaw05_pick (MSpan.mk p.warm.lo p.warm.hi) (by'.getD 2 0)).bind fun (r11 : Int) =>
(wormtublaw05_pick (MSpan.mk p.share.lo p.share.hi) (by'.getD 3 0)).bind fun (r12 : Int) =>
grd (InI64 (10000 * r6) ∧ InI64 (r6 - r11) ∧ InI64 (r12 * (r6 - r11)) ∧ InI64 ((10000 * r6) - (r12 * (r6 - r11)))) <|
some (r5, ((10000 * r6) - (r12 * (r6 - r11))), 10000))
else
(some (r5, r6, 1))))))))).bind fun (j1 : Int × Int × Int) =>
grd (((0 : Int) ≤ 0 ∧ (0 : Int) < ((r1.1.length : Nat) : Int))) <|
grd (((decide ((((r1.1.getD (Int.toNat 0) default).flow).lo) ≤ j1.1) && decide (j1.1 ≤ (((r1.1.getD (Int.toNat 0) default).flow).hi))) = true → InI64 ((((r1.1.getD (Int.toNat 0) default).warm).lo) * j1.2.2)) ∧ (((decide ((((r1.1.getD (Int.toNat 0) default).flow).lo) ≤ j1.1) && decide (j1.1 ≤ (((r1.1.getD (Int.toNat 0) default).flow).hi))) && decide (((((r1.1.getD (Int.toNat 0) default).warm).lo) * j1.2.2) ≤ j1.2.1)) = true → InI64 ((((r1.1.getD (Int.toNat 0) default).warm).hi) * j1.2.2))) <|
((bif ((((decide ((((r1.1.getD (Int.toNat 0) default).flow).lo) ≤ j1.1) && decide (j1.1 ≤ (((r1.1.getD (Int.toNat 0) default).flow).hi))) && decide (((((r1.1.getD (Int.toNat 0) default).warm).lo) * j1.2.2) ≤ j1.2.1)) && decide (j1.2.1 ≤ ((((r1.1.getD (Int.toNat 0) default).warm).hi) * j1.2.2))) && decide (1 ≤ (((r1.1.getD (Int.toNat 0) default).flow).lo))) then wormtublaw05_awake else some default)).bind fun (r13 : Bool) =>
some (((((decide ((((r1.1.getD (Int.toNat 0) default).flow).lo) ≤ j1.1) && decide (j1.1 ≤ (((r1.1.getD (Int.toNat 0) default).flow).hi))) && decide (((((r1.1.getD (Int.toNat 0) default).warm).lo) * j1.2.2) ≤ j1.2.1)) && decide (j1.2.1 ≤ ((((r1.1.getD (Int.toNat 0) default).warm).hi) * j1.2.2))) && decide (1 ≤ (((r1.1.getD (Int.toNat 0) default).flow).lo))) && r13)))))
set_option maxRecDepth 100000 in
set_option maxHeartbeats 4000000 in
theorem wormtublaw05_StreamStep_ok (first : MWater) (p : MPoint) (by' : List Int) (W : World)  (res : Bool) (h : wormtublaw05_StreamStep first p by' = some res) :
    Calls Go.Proofs.Try.prog 6 #[.agg #[.int .i64 first.flow.lo, .int .i64 first.flow.hi, .int .i64 first.warm.lo, .int .i64 first.warm.hi], .agg #[.int .i64 p.kind, .int .i64 p.flow.lo, .int .i64 p.flow.hi, .int .i64 p.warm.lo, .int .i64 p.warm.hi, .int .i64 p.heat.lo, .int .i64 p.heat.hi, .int .i64 p.share.lo, .int .i64 p.share.hi], .agg #[.int .u32 (by'.getD 0 0), .int .u32 (by'.getD 1 0), .int .u32 (by'.getD 2 0), .int .u32 (by'.getD 3 0)]] W fun e w' => e = .returned (.bool res) ∧ Below W.heap.size W w' := by
  refine sym_call (f := 6) (fn := Go.Proofs.Try.f6) (c := Go.Proofs.Try.f6.body.get rfl) Go.Proofs.Try.func6 rfl [.agg [.v (.int .i64 first.flow.lo), .v (.int .i64 first.flow.hi), .v (.int .i64 first.warm.lo), .v (.int .i64 first.warm.hi)], .agg [.v (.int .i64 p.kind), .v (.int .i64 p.flow.lo), .v (.int .i64 p.flow.hi), .v (.int .i64 p.warm.lo), .v (.int .i64 p.warm.hi), .v (.int .i64 p.heat.lo), .v (.int .i64 p.heat.hi), .v (.int .i64 p.share.lo), .v (.int .i64 p.share.hi)], .agg [.v (.int .u32 (by'.getD 0 0)), .v (.int .u32 (by'.getD 1 0)), .v (.int .u32 (by'.getD 2 0)), .v (.int .u32 (by'.getD 3 0))]] [] [] (envOf []) allR (fun _ _ => rfl) (by kernel_rfl) (envOf_one trivial) trivial (AllRR.all _ _) trivial fun E a w S => ?_
  rw [wormtublaw05_StreamStep] at h
  refine sym_seq lay_ok mixed [(0, { g := 0 }), (1, { g := 1 }), (2, { g := 2 })] [3, 4, 5] [0, 1, 2] (⟨[(3, .own 0 0), (4, .own 1 0), (5, .own 2 0)], ⟨[(0, .blk 25 [.v (.int .i64 first.flow.lo), .v (.int .i64 first.flow.hi), .v (.int .i64 first.warm.lo), .v (.int .i64 first.warm.hi)]), (1, .blk 47 [.v (.int .i64 p.kind), .v (.int .i64 p.flow.lo), .v (.int .i64 p.flow.hi), .v (.int .i64 p.warm.lo), .v (.int .i64 p.warm.hi), .v (.int .i64 p.heat.lo), .v (.int .i64 p.heat.hi), .v (.int .i64 p.share.lo), .v (.int .i64 p.share.hi)]), (2, .blk 49 [.v (.int .u32 (by'.getD 0 0)), .v (.int .u32 (by'.getD 1 0)), .v (.int .u32 (by'.getD 2 0)), .v (.int .u32 (by'.getD 3 0))])], [], []⟩⟩) [] S (by kernel_rfl) (by kernel_rfl) (by kernel_rfl) trivial ?_
  clear S; intro E a w S
  obtain ⟨r1, e1, h⟩ := bind_some h
  refine sym_seq lay_ok mixed [(2, { g := 3 }), (3, { g := 4, fp := [3], res := .tup [.ltr 4 0, .v (.int .i64 r1.2.1), .v (.int .i64 r1.2.2)], hx := some (SlicesAre 0 [⟨r1.1.length, 4, fun i => [.int .i64 (((r1.1.getD i default).flow).lo), .int .i64 (((r1.1.getD i default).flow).hi), .int .i64 (((r1.1.getD i default).warm).lo), .int .i64 (((r1.1.getD i default).warm).hi)]⟩]) })] [3, 4, 5, 7, 8, 9] [0, 1, 2, 4] (⟨[(3, .own 0 0), (4, .own 1 0), (5, .own 2 0), (7, .ltr 4 0), (8, .v (.int .i64 r1.2.1)), (9, .v (.int .i64 r1.2.2))], ⟨[(0, .blk 25 [.v (.int .i64 first.flow.lo), .v (.int .i64 first.flow.hi), .v (.int .i64 first.warm.lo), .v (.int .i64 first.warm.hi)]), (1, .blk 47 [.v (.int .i64 p.kind), .v (.int .i64 p.flow.lo), .v (.int .i64 p.flow.hi), .v (.int .i64 p.warm.lo), .v (.int .i64 p.warm.hi), .v (.int .i64 p.heat.lo), .v (.int .i64 p.heat.hi), .v (.int .i64 p.share.lo), .v (.int .i64 p.share.hi)]), (2, .blk 49 [.v (.int .u32 (by'.getD 0 0)), .v (.int .u32 (by'.getD 1 0)), .v (.int .u32 (by'.getD 2 0)), .v (.int .u32 (by'.getD 3 0))]), (4, .held (SlicesAre 0 [⟨r1.1.length, 4, fun i => [.int .i64 (((r1.1.getD i default).flow).lo), .int .i64 (((r1.1.getD i default).flow).hi), .int .i64 (((r1.1.getD i default).warm).lo), .int .i64 (((r1.1.getD i default).warm).hi)]⟩]))], [], []⟩⟩) [.callx ⟨[(3, .blk 47 [.v (.int .i64 p.kind), .v (.int .i64 p.flow.lo), .v (.int .i64 p.flow.hi), .v (.int .i64 p.warm.lo), .v (.int .i64 p.warm.hi), .v (.int .i64 p.heat.lo), .v (.int .i64 p.heat.hi), .v (.int .i64 p.share.lo), .v (.int .i64 p.share.hi)])], [], []⟩ 4 13 [.agg [.v (.int .i64 first.flow.lo), .v (.int .i64 first.flow.hi), .v (.int .i64 first.warm.lo), .v (.int .i64 first.warm.hi)], .row 3 0 1 1] (.tup [.ltr 4 0, .v (.int .i64 r1.2.1), .v (.int .i64 r1.2.2)]) (SlicesAre 0 [⟨r1.1.length, 4, fun i => [.int .i64 (((r1.1.getD i default).flow).lo), .int .i64 (((r1.1.getD i default).flow).hi), .int .i64 (((r1.1.getD i default).warm).lo), .int .i64 (((r1.1.getD i default).warm).hi)]⟩])] S (by kernel_rfl) (by kernel_rfl) (by kernel_rfl) ⟨⟨enters_13, fun E W _ hm => by simp only [SV.vals, SV.val]; exact ((stream_Flow_ok (MWater.mk (MSpan.mk first.flow.lo first.flow.hi) (MSpan.mk first.warm.lo first.warm.hi)) ([(MPoint.mk p.kind (MSpan.mk p.flow.lo p.flow.hi) (MSpan.mk p.warm.lo p.warm.hi) (MSpan.mk p.heat.lo p.heat.hi) (MSpan.mk p.share.lo p.share.hi))]) W (some ⟨E.ρ 3, 0, none⟩) 1 (Nat.le_refl _) (SlAt.of_blk (hm.blk 3 _ _ rfl) (lit_get ⟨trivial, rfl⟩)) r1 e1).mono fun e w' hx => by obtain ⟨v, h1, h2, h3, h4⟩ := hx; exact ⟨v, h1, h2, h3, h4.mono fun _ _ h => .inl h⟩)⟩, trivial⟩ ?_
  clear S; intro E a w S
  obtain ⟨E, S⟩ := St.read 4 0 1000 ⟨r1.1.length, 4, fun i => [.int .i64 (((r1.1.getD i default).flow).lo), .int .i64 (((r1.1.getD i default).flow).hi), .int .i64 (((r1.1.getD i default).warm).lo), .int .i64 (((r1.1.getD i default).warm).hi)]⟩ (⟨[(3, .own 0 0), (4, .own 1 0), (5, .own 2 0), (7, .sl 1000), (8, .v (.int .i64 r1.2.1)), (9, .v (.int .i64 r1.2.2))], ⟨[(0, .blk 25 [.v (.int .i64 first.flow.lo), .v (.int .i64 first.flow.hi), .v (.int .i64 first.warm.lo), .v (.int .i64 first.warm.hi)]), (1, .blk 47 [.v (.int .i64 p.kind), .v (.int .i64 p.flow.lo), .v (.int .i64 p.flow.hi), .v (.int .i64 p.warm.lo), .v (.int .i64 p.warm.hi), .v (.int .i64 p.heat.lo), .v (.int .i64 p.heat.hi), .v (.int .i64 p.share.lo), .v (.int .i64 p.share.hi)]), (2, .blk 49 [.v (.int .u32 (by'.getD 0 0)), .v (.int .u32 (by'.getD 1 0)), .v (.int .u32 (by'.getD 2 0)), .v (.int .u32 (by'.getD 3 0))]), (4, .held (SlicesAre 0 [⟨r1.1.length, 4, fun i => [.int .i64 (((r1.1.getD i default).flow).lo), .int .i64 (((r1.1.getD i default).flow).hi), .int .i64 (((r1.1.getD i default).warm).lo), .int .i64 (((r1.1.getD i default).warm).hi)]⟩]))], ((1000, ⟨r1.1.length, 4, fun i => [.int .i64 (((r1.1.getD i default).flow).lo), .int .i64 (((r1.1.getD i default).flow).hi), .int .i64 (((r1.1.getD i default).warm).lo), .int .i64 (((r1.1.getD i default).warm).hi)]⟩) :: []), []⟩⟩) rfl (fun v w h => h.1) (by intro _ h; cases h) (by kernel_rfl) (by kernel_rfl) S
  refine wp_seq ?_
  refine sym_seq lay_ok mixed [] [3, 4, 5, 7, 8, 29] [0, 1, 2] (⟨[(3, .own 0 0), (4, .own 1 0), (5, .own 2 0), (7, .sl 1000), (8, .v (.int .i64 r1.2.1)), (29, .v (.bool (r1.2.2 != 0)))], ⟨[(0, .blk 25 [.v (.int .i64 first.flow.lo), .v (.int .i64 first.flow.hi), .v (.int .i64 first.warm.lo), .v (.int .i64 first.warm.hi)]), (1, .blk 47 [.v (.int .i64 p.kind), .v (.int .i64 p.flow.lo), .v (.int .i64 p.flow.hi), .v (.int .i64 p.warm.lo), .v (.int .i64 p.warm.hi), .v (.int .i64 p.heat.lo), .v (.int .i64 p.heat.hi), .v (.int .i64 p.share.lo), .v (.int .i64 p.share.hi)]), (2, .blk 49 [.v (.int .u32 (by'.getD 0 0)), .v (.int .u32 (by'.getD 1 0)), .v (.int .u32 (by'.getD 2 0)), .v (.int .u32 (by'.getD 3 0))])], ((1000, ⟨r1.1.length, 4, fun i => [.int .i64 (((r1.1.getD i default).flow).lo), .int .i64 (((r1.1.getD i default).flow).hi), .int .i64 (((r1.1.getD i default).warm).lo), .int .i64 (((r1.1.getD i default).warm).hi)]⟩) :: []), []⟩⟩) [] S (by kernel_rfl) (by kernel_rfl) (by kernel_rfl) trivial ?_
  clear S; intro E a w S
  refine sym_if_last (b := (r1.2.2 != 0)) S rfl (fun hb1 => ?_) (fun hb1 => ?_)
  · have h := bif_t hb1 h
    obtain ⟨r2, e2, h⟩ := bind_some h
    refine sym_seq lay_ok mixed [(4, { og := true }), (5, { og := true }), (6, { pk := true }), (8, { og := true, res := .v (.bool r2) }), (9, { pk := true })] [6] [] (⟨[(6, .v (.bool (((((r1.1.length : Nat) : Int) == 0) && (r1.2.1 == 0)) && r2)))], ⟨[], ((1000, ⟨r1.1.length, 4, fun i => [.int .i64 (((r1.1.getD i default).flow).lo), .int .i64 (((r1.1.getD i default).flow).hi), .int .i64 (((r1.1.getD i default).warm).lo), .int .i64 (((r1.1.getD i default).warm).hi)]⟩) :: []), []⟩⟩) [.imp (((r1.1.length : Nat) : Int) == 0) (((r1.1.length : Nat) : Int) == 0), .imp (((r1.1.length : Nat) : Int) == 0) (((r1.1.length : Nat) : Int) == 0), .when ((((r1.1.length : Nat) : Int) == 0) && (r1.2.1 == 0)) (.call ⟨[], ((1000, ⟨r1.1.length, 4, fun i => [.int .i64 (((r1.1.getD i default).flow).lo), .int .i64 (((r1.1.getD i default).flow).hi), .int .i64 (((r1.1.getD i default).warm).lo), .int .i64 (((r1.1.getD i default).warm).hi)]⟩) :: []), []⟩ 12 [] (.v (.bool r2))), .imp ((((r1.1.length : Nat) : Int) == 0) && (r1.2.1 == 0)) ((((r1.1.length : Nat) : Int) == 0) && (r1.2.1 == 0))] S (by kernel_rfl) (by kernel_rfl) (by kernel_rfl) ⟨fun h => h, fun h => h, fun hW => ⟨enters_12, fun _ W _ hm => wormtublaw05_awake_ok  W r2 (bif_t hW e2)⟩, fun h => h, trivial⟩ ?_
    clear S; intro E a w S
    refine wp_ret ?_
    refine out_then_ret ?_
    have h := Option.some.inj h
    subst h
    exact sym_ret lay_ok [.v (.bool (((((r1.1.length : Nat) : Int) == 0) && (r1.2.1 == 0)) && r2))] (by kernel_rfl) rfl S ⟨rfl, S.below rfl⟩
  · have h := bif_f hb1 h
    refine wp_skip ?_
    refine out_then_normal ?_
    refine wp_seq ?_
    obtain ⟨r3, e3, h⟩ := bind_some h
    obtain ⟨r4, e4, h⟩ := bind_some h
    refine sym_seq lay_ok mixed [(1, { res := .v (.bool r3) }), (4, { og := true }), (5, { og := true, res := .v (.bool r4) }), (6, { og := true }), (7, { pk := true }), (9, { og := true }), (10, { og := true }), (11, { pk := true }), (13, { og := true }), (14, { og := true }), (15, { og := true }), (16, { pk := true })] [3, 4, 5, 7, 56] [0, 1, 2] (⟨[(3, .own 0 0), (4, .own 1 0), (5, .own 2 0), (7, .sl 1000), (56, .v (.bool ((((!r3) || (!r4)) || (r1.2.1 != 1)) || (((r1.1.length : Nat) : Int) != 1))))], ⟨[(0, .blk 25 [.v (.int .i64 first.flow.lo), .v (.int .i64 first.flow.hi), .v (.int .i64 first.warm.lo), .v (.int .i64 first.warm.hi)]), (1, .blk 47 [.v (.int .i64 p.kind), .v (.int .i64 p.flow.lo), .v (.int .i64 p.flow.hi), .v (.int .i64 p.warm.lo), .v (.int .i64 p.warm.hi), .v (.int .i64 p.heat.lo), .v (.int .i64 p.heat.hi), .v (.int .i64 p.share.lo), .v (.int .i64 p.share.hi)]), (2, .blk 49 [.v (.int .u32 (by'.getD 0 0)), .v (.int .u32 (by'.getD 1 0)), .v (.int .u32 (by'.getD 2 0)), .v (.int .u32 (by'.getD 3 0))])], ((1000, ⟨r1.1.length, 4, fun i => [.int .i64 (((r1.1.getD i default).flow).lo), .int .i64 (((r1.1.getD i default).flow).hi), .int .i64 (((r1.1.getD i default).warm).lo), .int .i64 (((r1.1.getD i default).warm).hi)]⟩) :: []), []⟩⟩) [.call ⟨[], ((1000, ⟨r1.1.length, 4, fun i => [.int .i64 (((r1.1.getD i default).flow).lo), .int .i64 (((r1.1.getD i default).flow).hi), .int .i64 (((r1.1.getD i default).warm).lo), .int .i64 (((r1.1.getD i default).warm).hi)]⟩) :: []), []⟩ 23 [.agg [.v (.int .i64 first.flow.lo), .v (.int .i64 first.flow.hi), .v (.int .i64 first.warm.lo), .v (.int .i64 first.warm.hi)]] (.v (.bool r3)), .imp (!(!r3)) (!(!r3)), .when (!(!r3)) (.call ⟨[], ((1000, ⟨r1.1.length, 4, fun i => [.int .i64 (((r1.1.getD i default).flow).lo), .int .i64 (((r1.1.getD i default).flow).hi), .int .i64 (((r1.1.getD i default).warm).lo), .int .i64 (((r1.1.getD i default).warm).hi)]⟩) :: []), []⟩ 24 [.agg [.v (.int .i64 p.kind), .v (.int .i64 p.flow.lo), .v (.int .i64 p.flow.hi), .v (.int .i64 p.warm.lo), .v (.int .i64 p.warm.hi), .v (.int .i64 p.heat.lo), .v (.int .i64 p.heat.hi), .v (.int .i64 p.share.lo), .v (.int .i64 p.share.hi)]] (.v (.bool r4))), .imp (!(!r3)) (!(!r3)), .imp (!(!r3)) (!(!r3)), .imp (!((!r3) || (!r4))) (!((!r3) || (!r4))), .imp (!((!r3) || (!r4))) (!((!r3) || (!r4))), .imp (!(((!r3) || (!r4)) || (r1.2.1 != 1))) (!(((!r3) || (!r4)) || (r1.2.1 != 1))), .imp (!(((!r3) || (!r4)) || (r1.2.1 != 1))) (!(((!r3) || (!r4)) || (r1.2.1 != 1))), .imp (!(((!r3) || (!r4)) || (r1.2.1 != 1))) (!(((!r3) || (!r4)) || (r1.2.1 != 1)))] S (by kernel_rfl) (by kernel_rfl) (by kernel_rfl) ⟨⟨enters_23, fun _ W _ hm => wormtubref05_Water_ok (MWater.mk (MSpan.mk first.flow.lo first.flow.hi) (MSpan.mk first.warm.lo first.warm.hi)) W r3 e3⟩, fun h => h, fun hW => ⟨enters_24, fun _ W _ hm => wormtubref05_Point_ok (MPoint.mk p.kind (MSpan.mk p.flow.lo p.flow.hi) (MSpan.mk p.warm.lo p.warm.hi) (MSpan.mk p.heat.lo p.heat.hi) (MSpan.mk p.share.lo p.share.hi)) W r4 (bif_t hW e4)⟩, fun h => h, fun h => h, fun h => h, fun h => h, fun h => h, fun h => h, fun h => h, trivial⟩ ?_
    clear S; intro E a w S
    refine sym_if_last (b := ((((!r3) || (!r4)) || (r1.2.1 != 1)) || (((r1.1.length : Nat) : Int) != 1))) S rfl (fun hb2 => ?_) (fun hb2 => ?_)
    · have h := bif_t hb2 h
      refine sym_seq lay_ok mixed [] [6] [] (⟨[(6, .v (.bool false))], ⟨[], ((1000, ⟨r1.1.length, 4, fun i => [.int .i64 (((r1.1.getD i default).flow).lo), .int .i64 (((r1.1.getD i default).flow).hi), .int .i64 (((r1.1.getD i default).warm).lo), .int .i64 (((r1.1.getD i default).warm).hi)]⟩) :: []), []⟩⟩) [] S (by kernel_rfl) (by kernel_rfl) (by kernel_rfl) trivial ?_
      clear S; intro E a w S
      refine wp_ret ?_
      refine out_then_ret ?_
      have h := Option.some.inj h
      subst h
      exact sym_ret lay_ok [.v (.bool false)] (by kernel_rfl) rfl S ⟨rfl, S.below rfl⟩
    · have h := bif_f hb2 h
      refine wp_skip ?_
      refine out_then_normal ?_
      obtain ⟨r5, e5, h⟩ := bind_some h
      obtain ⟨r6, e6, h⟩ := bind_some h
      refine sym_seq lay_ok mixed [(2, { px := some (.own 2 0) }), (4, { res := .v (.int .i64 r5) }), (7, { px := some (.own 2 1) }), (9, { res := .v (.int .i64 r6) })] [4, 5, 7, 10, 11] [1, 2] (⟨[(4, .own 1 0), (5, .own 2 0), (7, .sl 1000), (10, .v (.int .i64 r5)), (11, .v (.int .i64 r6))], ⟨[(1, .blk 47 [.v (.int .i64 p.kind), .v (.int .i64 p.flow.lo), .v (.int .i64 p.flow.hi), .v (.int .i64 p.warm.lo), .v (.int .i64 p.warm.hi), .v (.int .i64 p.heat.lo), .v (.int .i64 p.heat.hi), .v (.int .i64 p.share.lo), .v (.int .i64 p.share.hi)]), (2, .blk 49 [.v (.int .u32 (by'.getD 0 0)), .v (.int .u32 (by'.getD 1 0)), .v (.int .u32 (by'.getD 2 0)), .v (.int .u32 (by'.getD 3 0))])], ((1000, ⟨r1.1.length, 4, fun i => [.int .i64 (((r1.1.getD i default).flow).lo), .int .i64 (((r1.1.getD i default).flow).hi), .int .i64 (((r1.1.getD i default).warm).lo), .int .i64 (((r1.1.getD i default).warm).hi)]⟩) :: []), []⟩⟩) [.pure ⟨[], ((1000, ⟨r1.1.length, 4, fun i => [.int .i64 (((r1.1.getD i default).flow).lo), .int .i64 (((r1.1.getD i default).flow).hi), .int .i64 (((r1.1.getD i default).warm).lo), .int .i64 (((r1.1.getD i default).warm).hi)]⟩) :: []), []⟩ (.indexAddr 49 (.tmp 5) (.const (.int .i64 0))) [.own 2 0, .v (.int .i64 0)] (.own 2 0), .call ⟨[], ((1000, ⟨r1.1.length, 4, fun i => [.int .i64 (((r1.1.getD i default).flow).lo), .int .i64 (((r1.1.getD i default).flow).hi), .int .i64 (((r1.1.getD i default).warm).lo), .int .i64 (((r1.1.getD i default).warm).hi)]⟩) :: []), []⟩ 25 [.agg [.v (.int .i64 first.flow.lo), .v (.int .i64 first.flow.hi)], .v (.int .u32 (by'.getD 0 0))] (.v (.int .i64 r5)), .pure ⟨[], ((1000, ⟨r1.1.length, 4, fun i => [.int .i64 (((r1.1.getD i default).flow).lo), .int .i64 (((r1.1.getD i default).flow).hi), .int .i64 (((r1.1.getD i default).warm).lo), .int .i64 (((r1.1.getD i default).warm).hi)]⟩) :: []), []⟩ (.indexAddr 49 (.tmp 5) (.const (.int .i64 1))) [.own 2 0, .v (.int .i64 1)] (.own 2 1), .call ⟨[], ((1000, ⟨r1.1.length, 4, fun i => [.int .i64 (((r1.1.getD i default).flow).lo), .int .i64 (((r1.1.getD i default).flow).hi), .int .i64 (((r1.1.getD i default).warm).lo), .int .i64 (((r1.1.getD i default).warm).hi)]⟩) :: []), []⟩ 25 [.agg [.v (.int .i64 first.warm.lo), .v (.int .i64 first.warm.hi)], .v (.int .u32 (by'.getD 1 0))] (.v (.int .i64 r6))] S (by kernel_rfl) (by kernel_rfl) (by kernel_rfl) ⟨pure_idxSm (j := 0) (N := 4) (es := 1) lay_ok rfl (show 0 < 4 by decide), ⟨enters_25, fun _ W _ hm => wormtublaw05_pick_ok (MSpan.mk first.flow.lo first.flow.hi) (by'.getD 0 0) W r5 e5⟩, pure_idxSm (j := 1) (N := 4) (es := 1) lay_ok rfl (show 1 < 4 by decide), ⟨enters_25, fun _ W _ hm => wormtublaw05_pick_ok (MSpan.mk first.warm.lo first.warm.hi) (by'.getD 1 0) W r6 e6⟩, trivial⟩ ?_
      clear S; intro E a w S
      refine sym_seq lay_ok mixed [] [4, 5, 7, 10, 11, 12] [1, 2] (⟨[(4, .own 1 0), (5, .own 2 0), (7, .sl 1000), (10, .v (.int .i64 r5)), (11, .v (.int .i64 r6)), (12, .v (.int .i64 r5))], ⟨[(1, .blk 47 [.v (.int .i64 p.kind), .v (.int .i64 p.flow.lo), .v (.int .i64 p.flow.hi), .v (.int .i64 p.warm.lo), .v (.int .i64 p.warm.hi), .v (.int .i64 p.heat.lo), .v (.int .i64 p.heat.hi), .v (.int .i64 p.share.lo), .v (.int .i64 p.share.hi)]), (2, .blk 49 [.v (.int .u32 (by'.getD 0 0)), .v (.int .u32 (by'.getD 1 0)), .v (.int .u32 (by'.getD 2 0)), .v (.int .u32 (by'.getD 3 0))])], ((1000, ⟨r1.1.length, 4, fun i => [.int .i64 (((r1.1.getD i default).flow).lo), .int .i64 (((r1.1.getD i default).flow).hi), .int .i64 (((r1.1.getD i default).warm).lo), .int .i64 (((r1.1.getD i default).warm).hi)]⟩) :: []), []⟩⟩) [] S (by kernel_rfl) (by kernel_rfl) (by kernel_rfl) trivial ?_
      clear S; intro E a w S
      refine sym_seq lay_ok mixed [] [4, 5, 7, 10, 11, 12, 13, 14] [1, 2] (⟨[(4, .own 1 0), (5, .own 2 0), (7, .sl 1000), (10, .v (.int .i64 r5)), (11, .v (.int .i64 r6)), (12, .v (.int .i64 r5)), (13, .v (.int .i64 r6)), (14, .v (.int .i64 1))], ⟨[(1, .blk 47 [.v (.int .i64 p.kind), .v (.int .i64 p.flow.lo), .v (.int .i64 p.flow.hi), .v (.int .i64 p.warm.lo), .v (.int .i64 p.warm.hi), .v (.int .i64 p.heat.lo), .v (.int .i64 p.heat.hi), .v (.int .i64 p.share.lo), .v (.int .i64 p.share.hi)]), (2, .blk 49 [.v (.int .u32 (by'.getD 0 0)), .v (.int .u32 (by'.getD 1 0)), .v (.int .u32 (by'.getD 2 0)), .v (.int .u32 (by'.getD 3 0))])], ((1000, ⟨r1.1.length, 4, fun i => [.int .i64 (((r1.1.getD i default).flow).lo), .int .i64 (((r1.1.getD i default).flow).hi), .int .i64 (((r1.1.getD i default).warm).lo), .int .i64 (((r1.1.getD i default).warm).hi)]⟩) :: []), []⟩⟩) [] S (by kernel_rfl) (by kernel_rfl) (by kernel_rfl) trivial ?_
      clear S; intro E a w S
      refine wp_seq ?_
      refine sym_seq lay_ok mixed [] [4, 5, 7, 10, 11, 12, 13, 14, 70] [1, 2] (⟨[(4, .own 1 0), (5, .own 2 0), (7, .sl 1000), (10, .v (.int .i64 r5)), (11, .v (.int .i64 r6)), (12, .v (.int .i64 r5)), (13, .v (.int .i64 r6)), (14, .v (.int .i64 1)), (70, .v (.int .i64 p.kind))], ⟨[(1, .blk 47 [.v (.int .i64 p.kind), .v (.int .i64 p.flow.lo), .v (.int .i64 p.flow.hi), .v (.int .i64 p.warm.lo), .v (.int .i64 p.warm.hi), .v (.int .i64 p.heat.lo), .v (.int .i64 p.heat.hi), .v (.int .i64 p.share.lo), .v (.int .i64 p.share.hi)]), (2, .blk 49 [.v (.int .u32 (by'.getD 0 0)), .v (.int .u32 (by'.getD 1 0)), .v (.int .u32 (by'.getD 2 0)), .v (.int .u32 (by'.getD 3 0))])], ((1000, ⟨r1.1.length, 4, fun i => [.int .i64 (((r1.1.getD i default).flow).lo), .int .i64 (((r1.1.getD i default).flow).hi), .int .i64 (((r1.1.getD i default).warm).lo), .int .i64 (((r1.1.getD i default).warm).hi)]⟩) :: []), []⟩⟩) [] S (by kernel_rfl) (by kernel_rfl) (by kernel_rfl) trivial ?_
      clear S; intro E a w S
      refine wp_block ?_
      refine sym_seq lay_ok mixed [] [4, 5, 7, 10, 11, 12, 13, 14, 70, 71] [1, 2] (⟨[(4, .own 1 0), (5, .own 2 0), (7, .sl 1000), (10, .v (.int .i64 r5)), (11, .v (.int .i64 r6)), (12, .v (.int .i64 r5)), (13, .v (.int .i64 r6)), (14, .v (.int .i64 1)), (70, .v (.int .i64 p.kind)), (71, .v (.bool (p.kind == 0)))], ⟨[(1, .blk 47 [.v (.int .i64 p.kind), .v (.int .i64 p.flow.lo), .v (.int .i64 p.flow.hi), .v (.int .i64 p.warm.lo), .v (.int .i64 p.warm.hi), .v (.int .i64 p.heat.lo), .v (.int .i64 p.heat.hi), .v (.int .i64 p.share.lo), .v (.int .i64 p.share.hi)]), (2, .blk 49 [.v (.int .u32 (by'.getD 0 0)), .v (.int .u32 (by'.getD 1 0)), .v (.int .u32 (by'.getD 2 0)), .v (.int .u32 (by'.getD 3 0))])], ((1000, ⟨r1.1.length, 4, fun i => [.int .i64 (((r1.1.getD i default).flow).lo), .int .i64 (((r1.1.getD i default).flow).hi), .int .i64 (((r1.1.getD i default).warm).lo), .int .i64 (((r1.1.getD i default).warm).hi)]⟩) :: []), []⟩⟩) [] S (by kernel_rfl) (by kernel_rfl) (by kernel_rfl) trivial ?_
      clear S; intro E a w S
      obtain ⟨j1, e14, h⟩ := bind_some h
      refine sym_meet_last (b := (p.kind == 0)) (⟨[(7, .sl 1000), (12, .v (.int .i64 j1.1)), (13, .v (.int .i64 j1.2.1)), (14, .v (.int .i64 j1.2.2))], ⟨[], ((1000, ⟨r1.1.length, 4, fun i => [.int .i64 (((r1.1.getD i default).flow).lo), .int .i64 (((r1.1.getD i default).flow).hi), .int .i64 (((r1.1.getD i default).warm).lo), .int .i64 (((r1.1.getD i default).warm).hi)]⟩) :: []), []⟩⟩) S rfl (fun hb3 => ?_) (fun hb3 => ?_) ?_
      · clear h; have h := bif_t hb3 e14
        obtain ⟨r7, e7, h⟩ := bind_some h
        obtain ⟨r8, e8, h⟩ := bind_some h
        refine sym_seq lay_ok mixed [(2, { px := some (.own 2 2) }), (4, { res := .v (.int .i64 r7) }), (7, { px := some (.own 2 3) }), (9, { res := .v (.int .i64 r8) })] [7, 10, 11, 15, 16] [] (⟨[(7, .sl 1000), (10, .v (.int .i64 r5)), (11, .v (.int .i64 r6)), (15, .v (.int .i64 r7)), (16, .v (.int .i64 r8))], ⟨[], ((1000, ⟨r1.1.length, 4, fun i => [.int .i64 (((r1.1.getD i default).flow).lo), .int .i64 (((r1.1.getD i default).flow).hi), .int .i64 (((r1.1.getD i default).warm).lo), .int .i64 (((r1.1.getD i default).warm).hi)]⟩) :: []), []⟩⟩) [.pure ⟨[], ((1000, ⟨r1.1.length, 4, fun i => [.int .i64 (((r1.1.getD i default).flow).lo), .int .i64 (((r1.1.getD i default).flow).hi), .int .i64 (((r1.1.getD i default).warm).lo), .int .i64 (((r1.1.getD i default).warm).hi)]⟩) :: []), []⟩ (.indexAddr 49 (.tmp 5) (.const (.int .i64 2))) [.own 2 0, .v (.int .i64 2)] (.own 2 2), .call ⟨[], ((1000, ⟨r1.1.length, 4, fun i => [.int .i64 (((r1.1.getD i default).flow).lo), .int .i64 (((r1.1.getD i default).flow).hi), .int .i64 (((r1.1.getD i default).warm).lo), .int .i64 (((r1.1.getD i default).warm).hi)]⟩) :: []), []⟩ 25 [.agg [.v (.int .i64 p.flow.lo), .v (.int .i64 p.flow.hi)], .v (.int .u32 (by'.getD 2 0))] (.v (.int .i64 r7)), .pure ⟨[], ((1000, ⟨r1.1.length, 4, fun i => [.int .i64 (((r1.1.getD i default).flow).lo), .int .i64 (((r1.1.getD i default).flow).hi), .int .i64 (((r1.1.getD i default).warm).lo), .int .i64 (((r1.1.getD i default).warm).hi)]⟩) :: []), []⟩ (.indexAddr 49 (.tmp 5) (.const (.int .i64 3))) [.own 2 0, .v (.int .i64 3)] (.own 2 3), .call ⟨[], ((1000, ⟨r1.1.length, 4, fun i => [.int .i64 (((r1.1.getD i default).flow).lo), .int .i64 (((r1.1.getD i default).flow).hi), .int .i64 (((r1.1.getD i default).warm).lo), .int .i64 (((r1.1.getD i default).warm).hi)]⟩) :: []), []⟩ 25 [.agg [.v (.int .i64 p.warm.lo), .v (.int .i64 p.warm.hi)], .v (.int .u32 (by'.getD 3 0))] (.v (.int .i64 r8))] S (by kernel_rfl) (by kernel_rfl) (by kernel_rfl) ⟨pure_idxSm (j := 2) (N := 4) (es := 1) lay_ok rfl (show 2 < 4 by decide), ⟨enters_25, fun _ W _ hm => wormtublaw05_pick_ok (MSpan.mk p.flow.lo p.flow.hi) (by'.getD 2 0) W r7 e7⟩, pure_idxSm (j := 3) (N := 4) (es := 1) lay_ok rfl (show 3 < 4 by decide), ⟨enters_25, fun _ W _ hm => wormtublaw05_pick_ok (MSpan.mk p.warm.lo p.warm.hi) (by'.getD 3 0) W r8 e8⟩, trivial⟩ ?_
        clear S; intro E a w S
        obtain ⟨g1, h⟩ := grd_some h
        refine sym_seq lay_ok mixed [] [7, 10, 11, 15, 16, 12] [] (⟨[(7, .sl 1000), (10, .v (.int .i64 r5)), (11, .v (.int .i64 r6)), (15, .v (.int .i64 r7)), (16, .v (.int .i64 r8)), (12, .v (.int .i64 (r5 + r7)))], ⟨[], ((1000, ⟨r1.1.length, 4, fun i => [.int .i64 (((r1.1.getD i default).flow).lo), .int .i64 (((r1.1.getD i default).flow).hi), .int .i64 (((r1.1.getD i default).warm).lo), .int .i64 (((r1.1.getD i default).warm).hi)]⟩) :: []), []⟩⟩) [.rng .i64 (r5 + r7)] S (by kernel_rfl) (by kernel_rfl) (by kernel_rfl) ⟨rngI64 g1, trivial⟩ ?_
        clear S; intro E a w S
        obtain ⟨⟨g2, g3, g4, g5⟩, h⟩ := grd_some h
        refine sym_last lay_ok mixed [] [7, 12, 13, 14] [] (⟨[(7, .sl 1000), (12, .v (.int .i64 (r5 + r7))), (13, .v (.int .i64 ((r5 * r6) + (r7 * r8)))), (14, .v (.int .i64 (r5 + r7)))], ⟨[], ((1000, ⟨r1.1.length, 4, fun i => [.int .i64 (((r1.1.getD i default).flow).lo), .int .i64 (((r1.1.getD i default).flow).hi), .int .i64 (((r1.1.getD i default).warm).lo), .int .i64 (((r1.1.getD i default).warm).hi)]⟩) :: []), []⟩⟩) [.rng .i64 (r5 * r6), .rng .i64 (r7 * r8), .rng .i64 ((r5 * r6) + (r7 * r8)), .rng .i64 (r5 + r7)] S (by kernel_rfl) (by kernel_rfl) (by kernel_rfl) ⟨rngI64 g2, rngI64 g3, rngI64 g4, rngI64 g5, trivial⟩ ?_
        clear S; intro E a w S
        have hj := Option.some.inj h
        subst hj
        refine out_then_normal ?_
        exact ⟨_, St.cast (P := Go.Proofs.Try.prog) [] [] [7, 12, 13, 14] [] [1000] _ [] (by kernel_rfl) trivial S⟩
      · clear h; have h := bif_f hb3 e14
        refine sym_seq lay_ok mixed [] [4, 5, 7, 10, 11, 12, 13, 14, 70, 96] [1, 2] (⟨[(4, .own 1 0), (5, .own 2 0), (7, .sl 1000), (10, .v (.int .i64 r5)), (11, .v (.int .i64 r6)), (12, .v (.int .i64 r5)), (13, .v (.int .i64 r6)), (14, .v (.int .i64 1)), (70, .v (.int .i64 p.kind)), (96, .v (.bool (p.kind == 1)))], ⟨[(1, .blk 47 [.v (.int .i64 p.kind), .v (.int .i64 p.flow.lo), .v (.int .i64 p.flow.hi), .v (.int .i64 p.warm.lo), .v (.int .i64 p.warm.hi), .v (.int .i64 p.heat.lo), .v (.int .i64 p.heat.hi), .v (.int .i64 p.share.lo), .v (.int .i64 p.share.hi)]), (2, .blk 49 [.v (.int .u32 (by'.getD 0 0)), .v (.int .u32 (by'.getD 1 0)), .v (.int .u32 (by'.getD 2 0)), .v (.int .u32 (by'.getD 3 0))])], ((1000, ⟨r1.1.length, 4, fun i => [.int .i64 (((r1.1.getD i default).flow).lo), .int .i64 (((r1.1.getD i default).flow).hi), .int .i64 (((r1.1.getD i default).warm).lo), .int .i64 (((r1.1.getD i default).warm).hi)]⟩) :: []), []⟩⟩) [] S (by kernel_rfl) (by kernel_rfl) (by kernel_rfl) trivial ?_
        clear S; intro E a w S
        refine sym_if_last (b := (p.kind == 1)) S rfl (fun hb4 => ?_) (fun hb4 => ?_)
        · have h := bif_t hb4 h
          obtain ⟨r9, e9, h⟩ := bind_some h
          obtain ⟨g6, h⟩ := grd_some h
          refine sym_last lay_ok mixed [(3, { px := some (.own 2 2) }), (5, { res := .v (.int .i64 r9) })] [7, 12, 13, 14] [] (⟨[(7, .sl 1000), (12, .v (.int .i64 (r5 - r9))), (13, .v (.int .i64 r6)), (14, .v (.int .i64 1))], ⟨[], ((1000, ⟨r1.1.length, 4, fun i => [.int .i64 (((r1.1.getD i default).flow).lo), .int .i64 (((r1.1.getD i default).flow).hi), .int .i64 (((r1.1.getD i default).warm).lo), .int .i64 (((r1.1.getD i default).warm).hi)]⟩) :: []), []⟩⟩) [.pure ⟨[], ((1000, ⟨r1.1.length, 4, fun i => [.int .i64 (((r1.1.getD i default).flow).lo), .int .i64 (((r1.1.getD i default).flow).hi), .int .i64 (((r1.1.getD i default).warm).lo), .int .i64 (((r1.1.getD i default).warm).hi)]⟩) :: []), []⟩ (.indexAddr 49 (.tmp 5) (.const (.int .i64 2))) [.own 2 0, .v (.int .i64 2)] (.own 2 2), .call ⟨[], ((1000, ⟨r1.1.length, 4, fun i => [.int .i64 (((r1.1.getD i default).flow).lo), .int .i64 (((r1.1.getD i default).flow).hi), .int .i64 (((r1.1.getD i default).warm).lo), .int .i64 (((r1.1.getD i default).warm).hi)]⟩) :: []), []⟩ 25 [.agg [.v (.int .i64 p.flow.lo), .v (.int .i64 p.flow.hi)], .v (.int .u32 (by'.getD 2 0))] (.v (.int .i64 r9)), .rng .i64 (r5 - r9)] S (by kernel_rfl) (by kernel_rfl) (by kernel_rfl) ⟨pure_idxSm (j := 2) (N := 4) (es := 1) lay_ok rfl (show 2 < 4 by decide), ⟨enters_25, fun _ W _ hm => wormtublaw05_pick_ok (MSpan.mk p.flow.lo p.flow.hi) (by'.getD 2 0) W r9 e9⟩, rngI64 g6, trivial⟩ ?_
          clear S; intro E a w S
          have hj := Option.some.inj h
          subst hj
          refine out_then_normal ?_
          exact ⟨_, St.cast (P := Go.Proofs.Try.prog) [] [] [7, 12, 13, 14] [] [1000] _ [] (by kernel_rfl) trivial S⟩
        · have h := bif_f hb4 h
          refine sym_seq lay_ok mixed [] [4, 5, 7, 10, 11, 12, 13, 14, 70, 105] [1, 2] (⟨[(4, .own 1 0), (5, .own 2 0), (7, .sl 1000), (10, .v (.int .i64 r5)), (11, .v (.int .i64 r6)), (12, .v (.int .i64 r5)), (13, .v (.int .i64 r6)), (14, .v (.int .i64 1)), (70, .v (.int .i64 p.kind)), (105, .v (.bool (p.kind == 2)))], ⟨[(1, .blk 47 [.v (.int .i64 p.kind), .v (.int .i64 p.flow.lo), .v (.int .i64 p.flow.hi), .v (.int .i64 p.warm.lo), .v (.int .i64 p.warm.hi), .v (.int .i64 p.heat.lo), .v (.int .i64 p.heat.hi), .v (.int .i64 p.share.lo), .v (.int .i64 p.share.hi)]), (2, .blk 49 [.v (.int .u32 (by'.getD 0 0)), .v (.int .u32 (by'.getD 1 0)), .v (.int .u32 (by'.getD 2 0)), .v (.int .u32 (by'.getD 3 0))])], ((1000, ⟨r1.1.length, 4, fun i => [.int .i64 (((r1.1.getD i default).flow).lo), .int .i64 (((r1.1.getD i default).flow).hi), .int .i64 (((r1.1.getD i default).warm).lo), .int .i64 (((r1.1.getD i default).warm).hi)]⟩) :: []), []⟩⟩) [] S (by kernel_rfl) (by kernel_rfl) (by kernel_rfl) trivial ?_
          clear S; intro E a w S
          refine sym_if_last (b := (p.kind == 2)) S rfl (fun hb5 => ?_) (fun hb5 => ?_)
          · have h := bif_t hb5 h
            obtain ⟨g7, h⟩ := grd_some h
            obtain ⟨r10, e10, h⟩ := bind_some h
            obtain ⟨g8, h⟩ := grd_some h
            refine sym_last lay_ok mixed [(5, { px := some (.own 2 2) }), (7, { res := .v (.int .i64 r10) })] [7, 12, 13, 14] [] (⟨[(7, .sl 1000), (12, .v (.int .i64 r5)), (13, .v (.int .i64 ((r5 * r6) + r10))), (14, .v (.int .i64 r5))], ⟨[], ((1000, ⟨r1.1.length, 4, fun i => [.int .i64 (((r1.1.getD i default).flow).lo), .int .i64 (((r1.1.getD i default).flow).hi), .int .i64 (((r1.1.getD i default).warm).lo), .int .i64 (((r1.1.getD i default).warm).hi)]⟩) :: []), []⟩⟩) [.rng .i64 (r5 * r6), .pure ⟨[], ((1000, ⟨r1.1.length, 4, fun i => [.int .i64 (((r1.1.getD i default).flow).lo), .int .i64 (((r1.1.getD i default).flow).hi), .int .i64 (((r1.1.getD i default).warm).lo), .int .i64 (((r1.1.getD i default).warm).hi)]⟩) :: []), []⟩ (.indexAddr 49 (.tmp 5) (.const (.int .i64 2))) [.own 2 0, .v (.int .i64 2)] (.own 2 2), .call ⟨[], ((1000, ⟨r1.1.length, 4, fun i => [.int .i64 (((r1.1.getD i default).flow).lo), .int .i64 (((r1.1.getD i default).flow).hi), .int .i64 (((r1.1.getD i default).warm).lo), .int .i64 (((r1.1.getD i default).warm).hi)]⟩) :: []), []⟩ 25 [.agg [.v (.int .i64 p.heat.lo), .v (.int .i64 p.heat.hi)], .v (.int .u32 (by'.getD 2 0))] (.v (.int .i64 r10)), .rng .i64 ((r5 * r6) + r10)] S (by kernel_rfl) (by kernel_rfl) (by kernel_rfl) ⟨rngI64 g7, pure_idxSm (j := 2) (N := 4) (es := 1) lay_ok rfl (show 2 < 4 by decide), ⟨enters_25, fun _ W _ hm => wormtublaw05_pick_ok (MSpan.mk p.heat.lo p.heat.hi) (by'.getD 2 0) W r10 e10⟩, rngI64 g8, trivial⟩ ?_
            clear S; intro E a w S
            have hj := Option.some.inj h
            subst hj
            refine out_then_normal ?_
            exact ⟨_, St.cast (P := Go.Proofs.Try.prog) [] [] [7, 12, 13, 14] [] [1000] _ [] (by kernel_rfl) trivial S⟩
          · have h := bif_f hb5 h
            refine sym_seq lay_ok mixed [] [4, 5, 7, 11, 12, 13, 14, 117] [1, 2] (⟨[(4, .own 1 0), (5, .own 2 0), (7, .sl 1000), (11, .v (.int .i64 r6)), (12, .v (.int .i64 r5)), (13, .v (.int .i64 r6)), (14, .v (.int .i64 1)), (117, .v (.bool (p.kind == 3)))], ⟨[(1, .blk 47 [.v (.int .i64 p.kind), .v (.int .i64 p.flow.lo), .v (.int .i64 p.flow.hi), .v (.int .i64 p.warm.lo), .v (.int .i64 p.warm.hi), .v (.int .i64 p.heat.lo), .v (.int .i64 p.heat.hi), .v (.int .i64 p.share.lo), .v (.int .i64 p.share.hi)]), (2, .blk 49 [.v (.int .u32 (by'.getD 0 0)), .v (.int .u32 (by'.getD 1 0)), .v (.int .u32 (by'.getD 2 0)), .v (.int .u32 (by'.getD 3 0))])], ((1000, ⟨r1.1.length, 4, fun i => [.int .i64 (((r1.1.getD i default).flow).lo), .int .i64 (((r1.1.getD i default).flow).hi), .int .i64 (((r1.1.getD i default).warm).lo), .int .i64 (((r1.1.getD i default).warm).hi)]⟩) :: []), []⟩⟩) [] S (by kernel_rfl) (by kernel_rfl) (by kernel_rfl) trivial ?_
            clear S; intro E a w S
            refine sym_if_last (b := (p.kind == 3)) S rfl (fun hb6 => ?_) (fun hb6 => ?_)
            · have h := bif_t hb6 h
              obtain ⟨r11, e11, h⟩ := bind_some h
              obtain ⟨r12, e12, h⟩ := bind_some h
              refine sym_seq lay_ok mixed [(2, { px := some (.own 2 2) }), (4, { res := .v (.int .i64 r11) }), (7, { px := some (.own 2 3) }), (9, { res := .v (.int .i64 r12) })] [7, 11, 12, 17, 18] [] (⟨[(7, .sl 1000), (11, .v (.int .i64 r6)), (12, .v (.int .i64 r5)), (17, .v (.int .i64 r11)), (18, .v (.int .i64 r12))], ⟨[], ((1000, ⟨r1.1.length, 4, fun i => [.int .i64 (((r1.1.getD i default).flow).lo), .int .i64 (((r1.1.getD i default).flow).hi), .int .i64 (((r1.1.getD i default).warm).lo), .int .i64 (((r1.1.getD i default).warm).hi)]⟩) :: []), []⟩⟩) [.pure ⟨[], ((1000, ⟨r1.1.length, 4, fun i => [.int .i64 (((r1.1.getD i default).flow).lo), .int .i64 (((r1.1.getD i default).flow).hi), .int .i64 (((r1.1.getD i default).warm).lo), .int .i64 (((r1.1.getD i default).warm).hi)]⟩) :: []), []⟩ (.indexAddr 49 (.tmp 5) (.const (.int .i64 2))) [.own 2 0, .v (.int .i64 2)] (.own 2 2), .call ⟨[], ((1000, ⟨r1.1.length, 4, fun i => [.int .i64 (((r1.1.getD i default).flow).lo), .int .i64 (((r1.1.getD i default).flow).hi), .int .i64 (((r1.1.getD i default).warm).lo), .int .i64 (((r1.1.getD i default).warm).hi)]⟩) :: []), []⟩ 25 [.agg [.v (.int .i64 p.warm.lo), .v (.int .i64 p.warm.hi)], .v (.int .u32 (by'.getD 2 0))] (.v (.int .i64 r11)), .pure ⟨[], ((1000, ⟨r1.1.length, 4, fun i => [.int .i64 (((r1.1.getD i default).flow).lo), .int .i64 (((r1.1.getD i default).flow).hi), .int .i64 (((r1.1.getD i default).warm).lo), .int .i64 (((r1.1.getD i default).warm).hi)]⟩) :: []), []⟩ (.indexAddr 49 (.tmp 5) (.const (.int .i64 3))) [.own 2 0, .v (.int .i64 3)] (.own 2 3), .call ⟨[], ((1000, ⟨r1.1.length, 4, fun i => [.int .i64 (((r1.1.getD i default).flow).lo), .int .i64 (((r1.1.getD i default).flow).hi), .int .i64 (((r1.1.getD i default).warm).lo), .int .i64 (((r1.1.getD i default).warm).hi)]⟩) :: []), []⟩ 25 [.agg [.v (.int .i64 p.share.lo), .v (.int .i64 p.share.hi)], .v (.int .u32 (by'.getD 3 0))] (.v (.int .i64 r12))] S (by kernel_rfl) (by kernel_rfl) (by kernel_rfl) ⟨pure_idxSm (j := 2) (N := 4) (es := 1) lay_ok rfl (show 2 < 4 by decide), ⟨enters_25, fun _ W _ hm => wormtublaw05_pick_ok (MSpan.mk p.warm.lo p.warm.hi) (by'.getD 2 0) W r11 e11⟩, pure_idxSm (j := 3) (N := 4) (es := 1) lay_ok rfl (show 3 < 4 by decide), ⟨enters_25, fun _ W _ hm => wormtublaw05_pick_ok (MSpan.mk p.share.lo p.share.hi) (by'.getD 3 0) W r12 e12⟩, trivial⟩ ?_
              clear S; intro E a w S
              obtain ⟨⟨g9, g10, g11, g12⟩, h⟩ := grd_some h
              refine sym_last lay_ok mixed [] [7, 12, 13, 14] [] (⟨[(7, .sl 1000), (12, .v (.int .i64 r5)), (13, .v (.int .i64 ((10000 * r6) - (r12 * (r6 - r11))))), (14, .v (.int .i64 10000))], ⟨[], ((1000, ⟨r1.1.length, 4, fun i => [.int .i64 (((r1.1.getD i default).flow).lo), .int .i64 (((r1.1.getD i default).flow).hi), .int .i64 (((r1.1.getD i default).warm).lo), .int .i64 (((r1.1.getD i default).warm).hi)]⟩) :: []), []⟩⟩) [.rng .i64 (10000 * r6), .rng .i64 (r6 - r11), .rng .i64 (r12 * (r6 - r11)), .rng .i64 ((10000 * r6) - (r12 * (r6 - r11)))] S (by kernel_rfl) (by kernel_rfl) (by kernel_rfl) ⟨rngI64 g9, rngI64 g10, rngI64 g11, rngI64 g12, trivial⟩ ?_
              clear S; intro E a w S
              have hj := Option.some.inj h
              subst hj
              refine out_then_normal ?_
              exact ⟨_, St.cast (P := Go.Proofs.Try.prog) [] [] [7, 12, 13, 14] [] [1000] _ [] (by kernel_rfl) trivial S⟩
            · have h := bif_f hb6 h
              refine wp_skip ?_
              have hj := Option.some.inj h
              subst hj
              refine out_then_normal ?_
              exact ⟨_, St.cast (P := Go.Proofs.Try.prog) [] [] [7, 12, 13, 14] [] [1000] _ [] (by kernel_rfl) trivial S⟩
      clear S; intro E a w S
      refine out_block_normal ?_
      refine out_then_normal ?_
      obtain ⟨g13, h⟩ := grd_some h
      refine sym_seq lay_ok mixed [(3, { g := 5 })] [12, 13, 14, 19] [5] (⟨[(12, .v (.int .i64 j1.1)), (13, .v (.int .i64 j1.2.1)), (14, .v (.int .i64 j1.2.2)), (19, .own 5 0)], ⟨[(5, .blk 25 [.v (.int .i64 (((r1.1.getD (Int.toNat 0) default).flow).lo)), .v (.int .i64 (((r1.1.getD (Int.toNat 0) default).flow).hi)), .v (.int .i64 (((r1.1.getD (Int.toNat 0) default).warm).lo)), .v (.int .i64 (((r1.1.getD (Int.toNat 0) default).warm).hi))])], ((1000, ⟨r1.1.length, 4, fun i => [.int .i64 (((r1.1.getD i default).flow).lo), .int .i64 (((r1.1.getD i default).flow).hi), .int .i64 (((r1.1.getD i default).warm).lo), .int .i64 (((r1.1.getD i default).warm).hi)]⟩) :: []), []⟩⟩) [.idx 0 r1.1.length, .idx 0 r1.1.length] S (by kernel_rfl) (by kernel_rfl) (by kernel_rfl) ⟨g13, g13, trivial⟩ ?_
      clear S; intro E a w S
      obtain ⟨⟨g14, g15⟩, h⟩ := grd_some h
      obtain ⟨r13, e13, h⟩ := bind_some h
      refine sym_seq lay_ok mixed [(6, { og := true }), (7, { og := true }), (8, { og := true }), (9, { og := true }), (10, { og := true }), (11, { pk := true }), (13, { og := true }), (14, { og := true }), (15, { og := true }), (16, { og := true }), (17, { og := true }), (18, { og := true }), (19, { og := true }), (20, { pk := true }), (22, { og := true }), (23, { og := true }), (24, { og := true }), (25, { og := true }), (26, { og := true }), (27, { og := true }), (28, { og := true }), (29, { pk := true }), (31, { og := true }), (32, { og := true }), (33, { og := true }), (34, { og := true }), (35, { pk := true }), (37, { og := true, res := .v (.bool r13) }), (38, { pk := true })] [6] [] (⟨[(6, .v (.bool (((((decide ((((r1.1.getD (Int.toNat 0) default).flow).lo) ≤ j1.1) && decide (j1.1 ≤ (((r1.1.getD (Int.toNat 0) default).flow).hi))) && decide (((((r1.1.getD (Int.toNat 0) default).warm).lo) * j1.2.2) ≤ j1.2.1)) && decide (j1.2.1 ≤ ((((r1.1.getD (Int.toNat 0) default).warm).hi) * j1.2.2))) && decide (1 ≤ (((r1.1.getD (Int.toNat 0) default).flow).lo))) && r13)))], ⟨[], ((1000, ⟨r1.1.length, 4, fun i => [.int .i64 (((r1.1.getD i default).flow).lo), .int .i64 (((r1.1.getD i default).flow).hi), .int .i64 (((r1.1.getD i default).warm).lo), .int .i64 (((r1.1.getD i default).warm).hi)]⟩) :: []), []⟩⟩) [.imp (decide ((((r1.1.getD (Int.toNat 0) default).flow).lo) ≤ j1.1)) (decide ((((r1.1.getD (Int.toNat 0) default).flow).lo) ≤ j1.1)), .imp (decide ((((r1.1.getD (Int.toNat 0) default).flow).lo) ≤ j1.1)) (decide ((((r1.1.getD (Int.toNat 0) default).flow).lo) ≤ j1.1)), .imp (decide ((((r1.1.getD (Int.toNat 0) default).flow).lo) ≤ j1.1)) (decide ((((r1.1.getD (Int.toNat 0) default).flow).lo) ≤ j1.1)), .imp (decide ((((r1.1.getD (Int.toNat 0) default).flow).lo) ≤ j1.1)) (decide ((((r1.1.getD (Int.toNat 0) default).flow).lo) ≤ j1.1)), .imp (decide ((((r1.1.getD (Int.toNat 0) default).flow).lo) ≤ j1.1)) (decide ((((r1.1.getD (Int.toNat 0) default).flow).lo) ≤ j1.1)), .imp (decide ((((r1.1.getD (Int.toNat 0) default).flow).lo) ≤ j1.1) && decide (j1.1 ≤ (((r1.1.getD (Int.toNat 0) default).flow).hi))) (decide ((((r1.1.getD (Int.toNat 0) default).flow).lo) ≤ j1.1) && decide (j1.1 ≤ (((r1.1.getD (Int.toNat 0) default).flow).hi))), .imp (decide ((((r1.1.getD (Int.toNat 0) default).flow).lo) ≤ j1.1) && decide (j1.1 ≤ (((r1.1.getD (Int.toNat 0) default).flow).hi))) (decide ((((r1.1.getD (Int.toNat 0) default).flow).lo) ≤ j1.1) && decide (j1.1 ≤ (((r1.1.getD (Int.toNat 0) default).flow).hi))), .imp (decide ((((r1.1.getD (Int.toNat 0) default).flow).lo) ≤ j1.1) && decide (j1.1 ≤ (((r1.1.getD (Int.toNat 0) default).flow).hi))) (decide ((((r1.1.getD (Int.toNat 0) default).flow).lo) ≤ j1.1) && decide (j1.1 ≤ (((r1.1.getD (Int.toNat 0) default).flow).hi))), .imp (decide ((((r1.1.getD (Int.toNat 0) default).flow).lo) ≤ j1.1) && decide (j1.1 ≤ (((r1.1.getD (Int.toNat 0) default).flow).hi))) (decide ((((r1.1.getD (Int.toNat 0) default).flow).lo) ≤ j1.1) && decide (j1.1 ≤ (((r1.1.getD (Int.toNat 0) default).flow).hi))), .when (decide ((((r1.1.getD (Int.toNat 0) default).flow).lo) ≤ j1.1) && decide (j1.1 ≤ (((r1.1.getD (Int.toNat 0) default).flow).hi))) (.rng .i64 ((((r1.1.getD (Int.toNat 0) default).warm).lo) * j1.2.2)), .imp (decide ((((r1.1.getD (Int.toNat 0) default).flow).lo) ≤ j1.1) && decide (j1.1 ≤ (((r1.1.getD (Int.toNat 0) default).flow).hi))) (decide ((((r1.1.getD (Int.toNat 0) default).flow).lo) ≤ j1.1) && decide (j1.1 ≤ (((r1.1.getD (Int.toNat 0) default).flow).hi))), .imp (decide ((((r1.1.getD (Int.toNat 0) default).flow).lo) ≤ j1.1) && decide (j1.1 ≤ (((r1.1.getD (Int.toNat 0) default).flow).hi))) (decide ((((r1.1.getD (Int.toNat 0) default).flow).lo) ≤ j1.1) && decide (j1.1 ≤ (((r1.1.getD (Int.toNat 0) default).flow).hi))), .imp (decide ((((r1.1.getD (Int.toNat 0) default).flow).lo) ≤ j1.1) && decide (j1.1 ≤ (((r1.1.getD (Int.toNat 0) default).flow).hi))) (decide ((((r1.1.getD (Int.toNat 0) default).flow).lo) ≤ j1.1) && decide (j1.1 ≤ (((r1.1.getD (Int.toNat 0) default).flow).hi))), .imp ((decide ((((r1.1.getD (Int.toNat 0) default).flow).lo) ≤ j1.1) && decide (j1.1 ≤ (((r1.1.getD (Int.toNat 0) default).flow).hi))) && decide (((((r1.1.getD (Int.toNat 0) default).warm).lo) * j1.2.2) ≤ j1.2.1)) ((decide ((((r1.1.getD (Int.toNat 0) default).flow).lo) ≤ j1.1) && decide (j1.1 ≤ (((r1.1.getD (Int.toNat 0) default).flow).hi))) && decide (((((r1.1.getD (Int.toNat 0) default).warm).lo) * j1.2.2) ≤ j1.2.1)), .imp ((decide ((((r1.1.getD (Int.toNat 0) default).flow).lo) ≤ j1.1) && decide (j1.1 ≤ (((r1.1.getD (Int.toNat 0) default).flow).hi))) && decide (((((r1.1.getD (Int.toNat 0) default).warm).lo) * j1.2.2) ≤ j1.2.1)) ((decide ((((r1.1.getD (Int.toNat 0) default).flow).lo) ≤ j1.1) && decide (j1.1 ≤ (((r1.1.getD (Int.toNat 0) default).flow).hi))) && decide (((((r1.1.getD (Int.toNat 0) default).warm).lo) * j1.2.2) ≤ j1.2.1)), .imp ((decide ((((r1.1.getD (Int.toNat 0) default).flow).lo) ≤ j1.1) && decide (j1.1 ≤ (((r1.1.getD (Int.toNat 0) default).flow).hi))) && decide (((((r1.1.getD (Int.toNat 0) default).warm).lo) * j1.2.2) ≤ j1.2.1)) ((decide ((((r1.1.getD (Int.toNat 0) default).flow).lo) ≤ j1.1) && decide (j1.1 ≤ (((r1.1.getD (Int.toNat 0) default).flow).hi))) && decide (((((r1.1.getD (Int.toNat 0) default).warm).lo) * j1.2.2) ≤ j1.2.1)), .imp ((decide ((((r1.1.getD (Int.toNat 0) default).flow).lo) ≤ j1.1) && decide (j1.1 ≤ (((r1.1.getD (Int.toNat 0) default).flow).hi))) && decide (((((r1.1.getD (Int.toNat 0) default).warm).lo) * j1.2.2) ≤ j1.2.1)) ((decide ((((r1.1.getD (Int.toNat 0) default).flow).lo) ≤ j1.1) && decide (j1.1 ≤ (((r1.1.getD (Int.toNat 0) default).flow).hi))) && decide (((((r1.1.getD (Int.toNat 0) default).warm).lo) * j1.2.2) ≤ j1.2.1)), .when ((decide ((((r1.1.getD (Int.toNat 0) default).flow).lo) ≤ j1.1) && decide (j1.1 ≤ (((r1.1.getD (Int.toNat 0) default).flow).hi))) && decide (((((r1.1.getD (Int.toNat 0) default).warm).lo) * j1.2.2) ≤ j1.2.1)) (.rng .i64 ((((r1.1.getD (Int.toNat 0) default).warm).hi) * j1.2.2)), .imp ((decide ((((r1.1.getD (Int.toNat 0) default).flow).lo) ≤ j1.1) && decide (j1.1 ≤ (((r1.1.getD (Int.toNat 0) default).flow).hi))) && decide (((((r1.1.getD (Int.toNat 0) default).warm).lo) * j1.2.2) ≤ j1.2.1)) ((decide ((((r1.1.getD (Int.toNat 0) default).flow).lo) ≤ j1.1) && decide (j1.1 ≤ (((r1.1.getD (Int.toNat 0) default).flow).hi))) && decide (((((r1.1.getD (Int.toNat 0) default).warm).lo) * j1.2.2) ≤ j1.2.1)), .imp ((decide ((((r1.1.getD (Int.toNat 0) default).flow).lo) ≤ j1.1) && decide (j1.1 ≤ (((r1.1.getD (Int.toNat 0) default).flow).hi))) && decide (((((r1.1.getD (Int.toNat 0) default).warm).lo) * j1.2.2) ≤ j1.2.1)) ((decide ((((r1.1.getD (Int.toNat 0) default).flow).lo) ≤ j1.1) && decide (j1.1 ≤ (((r1.1.getD (Int.toNat 0) default).flow).hi))) && decide (((((r1.1.getD (Int.toNat 0) default).warm).lo) * j1.2.2) ≤ j1.2.1)), .imp ((decide ((((r1.1.getD (Int.toNat 0) default).flow).lo) ≤ j1.1) && decide (j1.1 ≤ (((r1.1.getD (Int.toNat 0) default).flow).hi))) && decide (((((r1.1.getD (Int.toNat 0) default).warm).lo) * j1.2.2) ≤ j1.2.1)) ((decide ((((r1.1.getD (Int.toNat 0) default).flow).lo) ≤ j1.1) && decide (j1.1 ≤ (((r1.1.getD (Int.toNat 0) default).flow).hi))) && decide (((((r1.1.getD (Int.toNat 0) default).warm).lo) * j1.2.2) ≤ j1.2.1)), .imp (((decide ((((r1.1.getD (Int.toNat 0) default).flow).lo) ≤ j1.1) && decide (j1.1 ≤ (((r1.1.getD (Int.toNat 0) default).flow).hi))) && decide (((((r1.1.getD (Int.toNat 0) default).warm).lo) * j1.2.2) ≤ j1.2.1)) && decide (j1.2.1 ≤ ((((r1.1.getD (Int.toNat 0) default).warm).hi) * j1.2.2))) (((decide ((((r1.1.getD (Int.toNat 0) default).flow).lo) ≤ j1.1) && decide (j1.1 ≤ (((r1.1.getD (Int.toNat 0) default).flow).hi))) && decide (((((r1.1.getD (Int.toNat 0) default).warm).lo) * j1.2.2) ≤ j1.2.1)) && decide (j1.2.1 ≤ ((((r1.1.getD (Int.toNat 0) default).warm).hi) * j1.2.2))), .imp (((decide ((((r1.1.getD (Int.toNat 0) default).flow).lo) ≤ j1.1) && decide (j1.1 ≤ (((r1.1.getD (Int.toNat 0) default).flow).hi))) && decide (((((r1.1.getD (Int.toNat 0) default).warm).lo) * j1.2.2) ≤ j1.2.1)) && decide (j1.2.1 ≤ ((((r1.1.getD (Int.toNat 0) default).warm).hi) * j1.2.2))) (((decide ((((r1.1.getD (Int.toNat 0) default).flow).lo) ≤ j1.1) && decide (j1.1 ≤ (((r1.1.getD (Int.toNat 0) default).flow).hi))) && decide (((((r1.1.getD (Int.toNat 0) default).warm).lo) * j1.2.2) ≤ j1.2.1)) && decide (j1.2.1 ≤ ((((r1.1.getD (Int.toNat 0) default).warm).hi) * j1.2.2))), .imp (((decide ((((r1.1.getD (Int.toNat 0) default).flow).lo) ≤ j1.1) && decide (j1.1 ≤ (((r1.1.getD (Int.toNat 0) default).flow).hi))) && decide (((((r1.1.getD (Int.toNat 0) default).warm).lo) * j1.2.2) ≤ j1.2.1)) && decide (j1.2.1 ≤ ((((r1.1.getD (Int.toNat 0) default).warm).hi) * j1.2.2))) (((decide ((((r1.1.getD (Int.toNat 0) default).flow).lo) ≤ j1.1) && decide (j1.1 ≤ (((r1.1.getD (Int.toNat 0) default).flow).hi))) && decide (((((r1.1.getD (Int.toNat 0) default).warm).lo) * j1.2.2) ≤ j1.2.1)) && decide (j1.2.1 ≤ ((((r1.1.getD (Int.toNat 0) default).warm).hi) * j1.2.2))), .imp (((decide ((((r1.1.getD (Int.toNat 0) default).flow).lo) ≤ j1.1) && decide (j1.1 ≤ (((r1.1.getD (Int.toNat 0) default).flow).hi))) && decide (((((r1.1.getD (Int.toNat 0) default).warm).lo) * j1.2.2) ≤ j1.2.1)) && decide (j1.2.1 ≤ ((((r1.1.getD (Int.toNat 0) default).warm).hi) * j1.2.2))) (((decide ((((r1.1.getD (Int.toNat 0) default).flow).lo) ≤ j1.1) && decide (j1.1 ≤ (((r1.1.getD (Int.toNat 0) default).flow).hi))) && decide (((((r1.1.getD (Int.toNat 0) default).warm).lo) * j1.2.2) ≤ j1.2.1)) && decide (j1.2.1 ≤ ((((r1.1.getD (Int.toNat 0) default).warm).hi) * j1.2.2))), .when ((((decide ((((r1.1.getD (Int.toNat 0) default).flow).lo) ≤ j1.1) && decide (j1.1 ≤ (((r1.1.getD (Int.toNat 0) default).flow).hi))) && decide (((((r1.1.getD (Int.toNat 0) default).warm).lo) * j1.2.2) ≤ j1.2.1)) && decide (j1.2.1 ≤ ((((r1.1.getD (Int.toNat 0) default).warm).hi) * j1.2.2))) && decide (1 ≤ (((r1.1.getD (Int.toNat 0) default).flow).lo))) (.call ⟨[], ((1000, ⟨r1.1.length, 4, fun i => [.int .i64 (((r1.1.getD i default).flow).lo), .int .i64 (((r1.1.getD i default).flow).hi), .int .i64 (((r1.1.getD i default).warm).lo), .int .i64 (((r1.1.getD i default).warm).hi)]⟩) :: []), []⟩ 12 [] (.v (.bool r13))), .imp ((((decide ((((r1.1.getD (Int.toNat 0) default).flow).lo) ≤ j1.1) && decide (j1.1 ≤ (((r1.1.getD (Int.toNat 0) default).flow).hi))) && decide (((((r1.1.getD (Int.toNat 0) default).warm).lo) * j1.2.2) ≤ j1.2.1)) && decide (j1.2.1 ≤ ((((r1.1.getD (Int.toNat 0) default).warm).hi) * j1.2.2))) && decide (1 ≤ (((r1.1.getD (Int.toNat 0) default).flow).lo))) ((((decide ((((r1.1.getD (Int.toNat 0) default).flow).lo) ≤ j1.1) && decide (j1.1 ≤ (((r1.1.getD (Int.toNat 0) default).flow).hi))) && decide (((((r1.1.getD (Int.toNat 0) default).warm).lo) * j1.2.2) ≤ j1.2.1)) && decide (j1.2.1 ≤ ((((r1.1.getD (Int.toNat 0) default).warm).hi) * j1.2.2))) && decide (1 ≤ (((r1.1.getD (Int.toNat 0) default).flow).lo)))] S (by kernel_rfl) (by kernel_rfl) (by kernel_rfl) (by exact ⟨fun h => h, fun h => h, fun h => h, fun h => h, fun h => h, fun h => h, fun h => h, fun h => h, fun h => h, fun hW => rngI64 (g14 hW), fun h => h, fun h => h, fun h => h, fun h => h, fun h => h, fun h => h, fun h => h, fun hW => rngI64 (g15 hW), fun h => h, fun h => h, fun h => h, fun h => h, fun h => h, fun h => h, fun h => h, fun hW => ⟨enters_12, fun _ W _ hm => wormtublaw05_awake_ok  W r13 (bif_t hW e13)⟩, fun h => h, trivial⟩) ?_
      clear S; intro E a w S
      refine wp_ret ?_
      have h := Option.some.inj h
      subst h
      exact sym_ret lay_ok [.v (.bool (((((decide ((((r1.1.getD (Int.toNat 0) default).flow).lo) ≤ j1.1) && decide (j1.1 ≤ (((r1.1.getD (Int.toNat 0) default).flow).hi))) && decide (((((r1.1.getD (Int.toNat 0) default).warm).lo) * j1.2.2) ≤ j1.2.1)) && decide (j1.2.1 ≤ ((((r1.1.getD (Int.toNat 0) default).warm).hi) * j1.2.2))) && decide (1 ≤ (((r1.1.getD (Int.toNat 0) default).flow).lo))) && r13))] (by kernel_rfl) rfl S ⟨rfl, S.below rfl⟩
end Go.Proofs.Ytlcccomdijdkaaa
namespace Go.Proofs.Ytlcccomdijdkaaa
open Go.RowKit Go.Proofs.Try

theorem bind_of {α β : Type} {x : Option α} {f : α → Option β} {r : β} (P : α → Prop) (hx : ∃ a, x = some a ∧ P a) (hf : ∀ a, P a → f a = some r) : x.bind f = some r := by
  obtain ⟨a, h, hp⟩ := hx
  rw [bind_ok h]
  exact hf a hp
theorem FlowS_bad {first : MWater} {l : List MPoint} (h : ¬ okW first) : FlowS first l = ([], 0, 1) := by unfold FlowS; rw [if_pos h]
theorem FlowS_no {first : MWater} {p : MPoint} (h : okW first) (hs : ¬ stepS first p = 0) : FlowS first [p] = ([], 0, stepS first p) := by
  unfold FlowS
  rw [if_neg (by simpa using h), if_neg (by simp), flowS_cons_no hs, if_pos hs]
  rfl
theorem FlowS_yes {first : MWater} {p : MPoint} (h : okW first) (hs : stepS first p = 0) : FlowS first [p] = ([bh first p], 1, 0) := by
  unfold FlowS
  rw [if_neg (by simpa using h), if_neg (by simp), flowS_cons_ok hs, flowS]
  simp
/-- what a true step behind is: its flow, and its warmth over a number -/
def Behind (w : MWater) (j : Int × Int × Int) : Prop := w.flow.lo ≤ j.1 ∧ j.1 ≤ w.flow.hi ∧ w.warm.lo * j.2.2 ≤ j.2.1 ∧ j.2.1 ≤ w.warm.hi * j.2.2 ∧ 0 ≤ j.2.2 ∧ j.2.2 ≤ 4294967296
theorem step_true (first : MWater) (p : MPoint) (by' : List Int) (hb : ∀ j, 0 ≤ by'.getD j 0 ∧ by'.getD j 0 ≤ 4294967295) : wormtublaw05_StreamStep first p by' = some true := by
  have B := fun j => (⟨(hb j).1, by have := (hb j).2; omega⟩ : 0 ≤ by'.getD j 0 ∧ by'.getD j 0 ≤ 4611686018427387903)
  unfold wormtublaw05_StreamStep
  refine Eq.trans (bind_ok (Flow_eq first [p]) _) ?_
  by_cases hw : okW first
  · by_cases hs : stepS first p = 0
    · obtain ⟨hp, hbw⟩ := stepS_ok hw hs
      rw [FlowS_yes hw hs]
      simp only
      refine Eq.trans (cond_f (by rfl) _ _) ?_
      refine Eq.trans (bind_ok (refWater_eq first) _) ?_
      simp only [hw, decide_true, Bool.not_true, Bool.not_false, cond_true]
      refine Eq.trans (bind_ok (refPoint_eq p) _) ?_
      simp only [hp, decide_true, Bool.not_true]
      refine Eq.trans (cond_f (by rfl) _ _) ?_
      have hW := hw
      obtain ⟨⟨f1, f2, f3⟩, ⟨t1, t2, t3⟩⟩ := hw
      obtain ⟨F, hF, F1, F2⟩ := pick_ok (s := first.flow) (by omega) f2 (by omega) (B 0)
      obtain ⟨T, hT, T1, T2⟩ := pick_ok (s := first.warm) (by omega) t2 (by omega) (B 1)
      refine Eq.trans (bind_ok hF _) ?_
      refine Eq.trans (bind_ok hT _) ?_
      refine bind_of (Behind (bh first p)) ?_ fun j hj => ?_
      · have PT := prod_in (t := T) (M := 100000) (a := F) (by omega) (by omega) (by omega)
        have hP := hp
        unfold okP at hp
        split at hp <;> rename_i k0
        · obtain ⟨⟨g1, g2, g3⟩, ⟨u1, u2, u3⟩⟩ := hp
          obtain ⟨G, hG, G1, G2⟩ := pick_ok (s := p.flow) (by omega) g2 (by omega) (B 2)
          obtain ⟨U, hU, U1, U2⟩ := pick_ok (s := p.warm) (by omega) u2 (by omega) (B 3)
          have PU := prod_in (t := U) (M := 100000) (a := G) (by omega) (by omega) (by omega)
          have W := joinWts hW ⟨g1, g2, g3⟩
          have L := low_mean (t := first.warm.lo) (u := p.warm.lo) (F := F) (G := G) W F1 F2 G1 G2 (by omega)
          have H := high_mean (t := first.warm.hi) (u := p.warm.hi) (F := F) (G := G) W F1 F2 G1 G2 (by omega)
          have m1 := Int.mul_le_mul_of_nonneg_right T1 (show 0 ≤ F by omega)
          have m2 := Int.mul_le_mul_of_nonneg_right T2 (show 0 ≤ F by omega)
          have m3 := Int.mul_le_mul_of_nonneg_right U1 (show 0 ≤ G by omega)
          have m4 := Int.mul_le_mul_of_nonneg_right U2 (show 0 ≤ G by omega)
          have c1 := Int.mul_comm T F
          have c2 := Int.mul_comm U G
          refine ⟨(F + G, F * T + G * U, F + G), ?_, ?_⟩
          · rw [cond_t (by simp [k0])]
            refine Eq.trans (bind_ok hG _) ?_
            refine Eq.trans (bind_ok hU _) ?_
            rw [grd_pos (by omega), grd_pos ⟨by omega, by omega, by omega, by omega⟩]
          · unfold bh
            rw [if_pos k0]
            exact ⟨by simp only; omega, by simp only; omega, by simp only; omega, by simp only; omega, by simp only; omega, by simp only; omega⟩
        split at hp <;> rename_i k1
        · obtain ⟨g1, g2, g3⟩ := hp
          obtain ⟨G, hG, G1, G2⟩ := pick_ok (s := p.flow) (by omega) g2 (by omega) (B 2)
          refine ⟨(F - G, T, 1), ?_, ?_⟩
          · rw [cond_f (by simp [k0]), cond_t (by simp [k1])]
            refine Eq.trans (bind_ok hG _) ?_
            rw [grd_pos (by omega)]
          · unfold bh
            rw [if_neg k0, if_pos k1]
            exact ⟨by simp only; omega, by simp only; omega, by simp only; omega, by simp only; omega, by simp only; omega, by simp only; omega⟩
        split at hp <;> rename_i k2
        · obtain ⟨g1, g2, g3⟩ := hp
          obtain ⟨H, hH, H1, H2⟩ := pick_ok (s := p.heat) (by omega) g2 (by omega) (B 2)
          have c1 := Int.mul_comm T F
          refine ⟨(F, F * T + H, F), ?_, ?_⟩
          · rw [cond_f (by simp [k0]), cond_f (by simp [k1]), cond_t (by simp [k2]), grd_pos (by omega)]
            refine Eq.trans (bind_ok hH _) ?_
            rw [grd_pos (by omega)]
          · unfold bh
            rw [if_neg k0, if_neg k1, if_pos k2]
            have m1 := Int.mul_le_mul_of_nonneg_right T1 (show 0 ≤ F by omega)
            have m2 := Int.mul_le_mul_of_nonneg_right T2 (show 0 ≤ F by omega)
            have e1 := div_in g1 (show 0 < first.flow.hi by omega)
            have d1 := Int.mul_le_mul_of_nonneg_left F2 e1.1
            have d2 := (div_mul (a := p.heat.lo) (show 0 < first.flow.hi by omega)).1
            have e4 : 0 ≤ cl p.heat.hi first.flow.lo := Int.ediv_nonneg (by omega) (by omega)
            have d3 := Int.mul_le_mul_of_nonneg_left F1 e4
            have d4 := cl_mul (N := p.heat.hi) (show 0 < first.flow.lo by omega)
            have x1 := Int.add_mul first.warm.lo (p.heat.lo / first.flow.hi) F
            have x2 := Int.add_mul first.warm.hi (cl p.heat.hi first.flow.lo) F
            exact ⟨by simp only; omega, by simp only; omega, by simp only; omega, by simp only; omega, by simp only; omega, by simp only; omega⟩
        split at hp <;> rename_i k3
        · obtain ⟨⟨u1, u2, u3⟩, ⟨g1, g2, g3⟩⟩ := hp
          obtain ⟨U, hU, U1, U2⟩ := pick_ok (s := p.warm) (by omega) u2 (by omega) (B 2)
          obtain ⟨G, hG, G1, G2⟩ := pick_ok (s := p.share) (by omega) g2 (by omega) (B 3)
          have W := airWts ⟨g1, g2, g3⟩
          have L := low_mean (t := first.warm.lo) (u := p.warm.lo) (F := 10000 - G) (G := G) W (by omega) (by omega) G1 G2 (by omega)
          have H := high_mean (t := first.warm.hi) (u := p.warm.hi) (F := 10000 - G) (G := G) W (by omega) (by omega) G1 G2 (by omega)
          have m1 := Int.mul_le_mul_of_nonneg_right T1 (show 0 ≤ 10000 - G by omega)
          have m2 := Int.mul_le_mul_of_nonneg_right T2 (show 0 ≤ 10000 - G by omega)
          have m3 := Int.mul_le_mul_of_nonneg_right U1 (show 0 ≤ G by omega)
          have m4 := Int.mul_le_mul_of_nonneg_right U2 (show 0 ≤ G by omega)
          have p1 := prod_in (t := T) (M := 100000) (a := G) (by omega) (by omega) (by omega)
          have p2 := prod_in (t := U) (M := 100000) (a := G) (by omega) (by omega) (by omega)
          have x1 : G * (T - U) = T * G - U * G := by rw [Int.mul_sub, Int.mul_comm G T, Int.mul_comm G U]
          have x2 : T * (10000 - G) = 10000 * T - T * G := by rw [Int.mul_sub, Int.mul_comm T 10000]
          rw [show 10000 - G + G = 10000 by omega] at L H
          refine ⟨(F, 10000 * T - G * (T - U), 10000), ?_, ?_⟩
          · rw [cond_f (by simp [k0]), cond_f (by simp [k1]), cond_f (by simp [k2]), cond_t (by simp [k3])]
            refine Eq.trans (bind_ok hU _) ?_
            refine Eq.trans (bind_ok hG _) ?_
            rw [grd_pos ⟨by omega, by omega, by omega, by omega⟩]
          · unfold bh
            rw [if_neg k0, if_neg k1, if_neg k2]
            exact ⟨by simp only; omega, by simp only; omega, by simp only; omega, by simp only; omega, by simp only; omega, by simp only; omega⟩
        · exact hp.elim
      · obtain ⟨x, y, z⟩ := j
        obtain ⟨j1, j2, j3, j4, j5, j6⟩ := hj
        obtain ⟨⟨b1, b2, b3⟩, ⟨b4, b5, b6⟩⟩ := hbw
        simp only [Int.toNat_zero, List.getD_cons_zero] at j1 j2 j3 j4 j5 j6 ⊢
        have q1 := prod_in (t := (bh first p).warm.lo) (M := 100000) (a := z) (by omega) (by omega) j5
        have q2 := prod_in (t := (bh first p).warm.hi) (M := 100000) (a := z) (by omega) (by omega) j5
        rw [grd_pos ⟨by omega, by simp⟩, grd_pos ⟨fun _ => by omega, fun _ => by omega⟩]
        simp [j1, j2, j3, j4, b1, awake_true]
    · rw [FlowS_no hw hs]
      refine Eq.trans (cond_t (b := stepS first p != 0) (by simpa using hs) _ _) ?_
      simp [awake_true]
  · rw [FlowS_bad hw]
    simp [awake_true]
end Go.Proofs.Ytlcccomdijdkaaa
namespace Go.Proofs.Ytlcccomdijdkaaa
open Go.ChangeShapes Go.WideShapes Go.ChangeAt Go.RowKit Go.Deep

set_option maxRecDepth 100000 in
theorem open_u32a4 {w : World} {r : Reach} {base : Nat} {v : Value} (h : Value.okWide Try.prog w r base 49 v) : ∃ a0 a1 a2 a3 : Int, v = .agg #[.int .u32 a0, .int .u32 a1, .int .u32 a2, .int .u32 a3] ∧ (0 ≤ a0 ∧ a0 ≤ 4294967295) ∧ (0 ≤ a1 ∧ a1 ≤ 4294967295) ∧ (0 ≤ a2 ∧ a2 ≤ 4294967295) ∧ (0 ≤ a3 ∧ a3 ≤ 4294967295) := by
  obtain ⟨xs, hn, rfl, hx⟩ := okAgg (k := .u32) (n := 4) (ts := [48, 48, 48, 48]) (.inr ⟨_, _, Try.underlying49⟩) (by kernel_rfl) (by kernel_rfl) (by intro u hu; simp at hu; subst hu; exact Try.underlying48) h
  match xs, hn with
  | [a0, a1, a2, a3], _ => exact ⟨a0, a1, a2, a3, rfl, hx a0 (by simp), hx a1 (by simp), hx a2 (by simp), hx a3 (by simp)⟩
theorem four_in {a0 a1 a2 a3 : Int} (h0 : 0 ≤ a0 ∧ a0 ≤ 4294967295) (h1 : 0 ≤ a1 ∧ a1 ≤ 4294967295) (h2 : 0 ≤ a2 ∧ a2 ≤ 4294967295) (h3 : 0 ≤ a3 ∧ a3 ≤ 4294967295) (j : Nat) : 0 ≤ [a0, a1, a2, a3].getD j 0 ∧ [a0, a1, a2, a3].getD j 0 ≤ 4294967295 := by
  match j with
  | 0 => exact h0
  | 1 => exact h1
  | 2 => exact h2
  | 3 => exact h3
  | j + 4 => simp
end Go.Proofs.Ytlcccomdijdkaaa
namespace Go.Proofs.Ytlcccomdijdkaaa.streamStep
open Go.ChangeShapes Go.WideShapes Go.ChangeAt Go.RowKit Go.Deep
theorem own : ownKnob Try.prog.godebug = none := by kernel_rfl
theorem laidOut : laidOutB Try.prog = true := by kernel_rfl
set_option maxHeartbeats 1000000 in
set_option maxRecDepth 100000 in
theorem lifted (os : Os) (started : os.Started) (H : Type) (enc : TypeId × Value → H) :
    ReturnsInHanded {} Try.checked os 6 .any (Rows.streamStepSpec.pre6 enc Try.prog Try.f6 Rows.streamStepRow.domain false) (Rows.streamStepSpec.post enc Try.prog Try.f6 false true false false) := by
  refine returnsInHanded_of_change_sized (C := Try.checked) own started (by kernel_rfl) Try.func6
    (ChangeSpec.witness6 (enc := enc) (C := Try.checked) false ⟨#[], #[.agg #[.int .i64 0, .int .i64 0, .int .i64 0, .int .i64 0], .agg #[.int .i64 0, .int .i64 0, .int .i64 0, .int .i64 0, .int .i64 0, .int .i64 0, .int .i64 0, .int .i64 0, .int .i64 0], .agg #[.int .u32 0, .int .u32 0, .int .u32 0, .int .u32 0]], []⟩ 8 (by kernel_rfl) (by kernel_rfl) (by kernel_rfl) (by kernel_rfl)) ?_
  intro W base args ds gs before hval0 hW _ hsz0 _
  have hsz : (DataW.weightsEach Try.prog (Try.f6.params.toList ++ Rows.streamStepSpec.plain.varTypes Try.prog) (ds ++ gs)).all (· ≤ reachBytes) = true := hsz0
  have hval : ∀ (j : Nat) t v, Try.f6.params[j]? = some t → args[j]? = some v → Value.okWide Try.prog W .any base t v := hval0
  have hW' := hW
  obtain ⟨p, q, hA0, hV, rfl, hfz, hnd⟩ := hW
  have hA : DataW.TrodAll enc Try.prog W 0 (fun _ => true) true Try.f6.params.toList args.toList ds p := hA0
  rw [Try.params6] at hA hval hsz
  obtain ⟨v0, vs0, d0, ds0, pp0, qq0, hargs, rfl, rfl, hh0, rr0⟩ := trodAll_cons hA
  obtain ⟨v1, vs1, d1, ds1, pp1, qq1, rfl, rfl, rfl, hh1, rr1⟩ := trodAll_cons rr0
  obtain ⟨v2, vs2, d2, ds2, pp2, qq2, rfl, rfl, rfl, hh2, rr2⟩ := trodAll_cons rr1
  obtain ⟨rfl, rfl, rfl⟩ := trodAll_nil rr2
  obtain rfl : args = #[v0, v1, v2] := by cases args; simp_all
  obtain ⟨rfl, rfl⟩ := trodVars_none hV
  have kk0 := hh0
  have lt0 : ∀ x ∈ pp0, x.block < W.heap.size := by obtain ⟨m, hm⟩ := kk0; exact DataW.trod_lt m _ _ _ hm
  obtain ⟨wf0, wf1, wf2, wf3, rfl, wfb0, wfb1, wfb2, wfb3⟩ := open_water (hval 0 25 v0 rfl rfl)
  have kk1 := hh1
  have lt1 : ∀ x ∈ pp1, x.block < W.heap.size := by obtain ⟨m, hm⟩ := kk1; exact DataW.trod_lt m _ _ _ hm
  obtain ⟨pt0, pt1, pt2, pt3, pt4, pt5, pt6, pt7, pt8, rfl, ptb0, ptb1, ptb2, ptb3, ptb4, ptb5, ptb6, ptb7, ptb8⟩ := open_point (hval 1 47 v1 rfl rfl)
  have kk2 := hh2
  have lt2 : ∀ x ∈ pp2, x.block < W.heap.size := by obtain ⟨m, hm⟩ := kk2; exact DataW.trod_lt m _ _ _ hm
  obtain ⟨nn0, nn1, nn2, nn3, rfl, nnb0, nnb1, nnb2, nnb3⟩ := open_u32a4 (hval 2 49 v2 rfl rfl)
  clear hA0 hval0 hsz0
  refine (Go.Proofs.Ytlcccomdijdkaaa.wormtublaw05_StreamStep_ok (MWater.mk (MSpan.mk wf0 wf1) (MSpan.mk wf2 wf3)) (MPoint.mk pt0 (MSpan.mk pt1 pt2) (MSpan.mk pt3 pt4) (MSpan.mk pt5 pt6) (MSpan.mk pt7 pt8)) [nn0, nn1, nn2, nn3] W true (step_true _ _ _ (four_in nnb0 nnb1 nnb2 nnb3))).mono fun e W' ⟨he, bel⟩ => ?_
  subst he
  exact ⟨_, rfl, _, _, _, [], _, [], hW', trodAll_mk1 (shut_bool Try.underlying4 _), (trodAll_cons_mk (Below.trod laidOut (by kernel_rfl) (of_decide_eq_true (by kernel_rfl)) kk0 bel lt0) (trodAll_cons_mk (Below.trod laidOut (by kernel_rfl) (of_decide_eq_true (by kernel_rfl)) kk1 bel lt1) (trodAll_cons_mk (Below.trod laidOut (by kernel_rfl) (of_decide_eq_true (by kernel_rfl)) kk2 bel lt2) trodAll_mk0))), rfl, bel.frame _, fun h => by cases h⟩
theorem over : Rows.streamStepRow.holds Try.pinned (OpenSpec.ofChange Rows.streamStepSpec) :=
  OpenClaim.holds_of_wide 6 Try.f6 rfl rfl rfl rfl rfl rfl rfl ⟨rfl, rfl, rfl, rfl, rfl⟩ rfl rfl rfl rfl rfl (by kernel_rfl) Try.func6 (by kernel_rfl)
    (of_decide_eq_true (by kernel_rfl)) (by unfold Func.isWrapper; first | (rw [if_pos (by decide +kernel)]; kernel_rfl) | (rw [if_neg (by decide +kernel)]; exact ⟨rfl, rfl⟩))
    (fun os started H enc _ => lifted os started H enc)
/-- the given statement -/
theorem proved : Rows.StreamStepSaid := over
end Go.Proofs.Ytlcccomdijdkaaa.streamStep
