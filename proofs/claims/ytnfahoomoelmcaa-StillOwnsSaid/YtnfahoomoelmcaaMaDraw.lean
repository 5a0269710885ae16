/- Drawing, as both sides reckon it: one amount, and one after the other. -/
import Derived.Test.YtnfahoomoelmcaaMaThru
namespace Go.Proofs.Ytnfahoomoelmcaa
open Go.RowKit Go.Proofs.Try

/-- how strong, of so much alcohol in so much -/
def strV (lo hi n : Int) : MSpan := if n = 0 then MSpan.mk 0 0 else MSpan.mk (lo * 10000 / n) ((hi * 10000 + n - 1) / n)
theorem strength_eq {lo hi n : Int} (h1 : 0 ≤ lo ∧ lo ≤ 1073741824) (h2 : 0 ≤ hi ∧ hi ≤ 1073741824) (hn : 0 ≤ n ∧ n ≤ 1073741824) : still_strength (MSpan.mk lo hi) n = some (strV lo hi n) ∧ wormtubref04_strong (MSpan.mk lo hi) n = some (strV lo hi n) := by
  unfold still_strength wormtubref04_strong strV
  by_cases h : n = 0
  · rw [cond_t (by simpa using h), cond_t (by simpa using h), if_pos h]
    exact ⟨rfl, rfl⟩
  · have d1 := div_in (a := lo * 10000) (b := n) (by omega) (by omega)
    have d2 := div_in (a := hi * 10000 + n - 1) (b := n) (by omega) (by omega)
    have e1 : still_down (lo * 10000) n = some (lo * 10000 / n) := by rw [still_down, tdiv_eq (by omega), grd_pos ⟨h, by omega⟩]
    have e2 := up_eq (a := hi * 10000) (b := n) (by omega) (by omega)
    have e3 := upR_eq (a := hi * 10000) (b := n) (by omega) (by omega)
    have e4 : (lo * 10000).tdiv n = lo * 10000 / n := tdiv_eq (by omega)
    rw [cond_f (by simpa using h), cond_f (by simpa using h), if_neg h]
    refine ⟨(grd_pos (by dsimp only; omega) _).trans ((bind_ok e1 _).trans ((grd_pos (by dsimp only; omega) _).trans (bind_ok e2 _))), (grd_pos ⟨by dsimp only; omega, h, by dsimp only; rw [e4]; omega, by dsimp only; omega⟩ _).trans ((bind_ok e3 _).trans ?_)⟩
    dsimp only
    rw [e4]
/-- a strength is within the whole -/
theorem str_in {lo hi n : Int} (h1 : 0 ≤ lo) (h2 : lo ≤ hi) (h3 : hi ≤ n) : Okay 0 10000 (strV lo hi n) := by
  unfold strV
  by_cases h : n = 0
  · rw [if_pos h]; exact ⟨by decide, by decide, by decide⟩
  · rw [if_neg h]
    have a1 := div_in (a := lo * 10000) (b := n) (by omega) (by omega)
    have a2 := Int.ediv_le_ediv (c := n) (by omega) (show lo * 10000 ≤ hi * 10000 + n - 1 by omega)
    have a3 := Int.ediv_le_ediv (c := n) (by omega) (show hi * 10000 + n - 1 ≤ 10000 * n + n - 1 by omega)
    rw [ceil_mul (by omega)] at a3
    exact ⟨a1.1, a2, a3⟩
theorem str_lo {lo hi n : Int} (h1 : 0 ≤ lo) (hn : 0 ≤ n) : 0 ≤ (strV lo hi n).lo := by
  unfold strV
  by_cases h : n = 0
  · rw [if_pos h]; decide
  · rw [if_neg h]
    exact (div_in (by omega) (by omega)).1
/-- what is drawn, and what stays -/
structure Dr where
  most : Int
  stays : Int
  weak : Int
  least : Int
  high : Int
def drV (c : MCurve) (p : MPot) (d : Int) : Dr :=
  let s := strV p.alcohol.lo p.alcohol.hi p.volume
  let most := min ((d * highV c s.hi + 9999) / 10000) p.alcohol.hi
  let stays := max (p.alcohol.lo - most) 0
  let weak := min (strV stays 0 (p.volume - d)).lo s.lo
  let least := max (d * lowV c weak / 10000) (p.alcohol.lo - (p.volume - d))
  ⟨most, stays, weak, least, min (min (p.alcohol.hi - least) (p.volume - d)) ((p.alcohol.hi * (p.volume - d) + p.volume - 1) / p.volume)⟩
def PotOK (p : MPot) : Prop := (0 ≤ p.volume ∧ p.volume ≤ 1073741824) ∧ Okay 0 p.volume p.alcohol
theorem mul_le {a b m n : Int} (ha : 0 ≤ a ∧ a ≤ m) (hb : 0 ≤ b ∧ b ≤ n) : 0 ≤ a * b ∧ a * b ≤ m * n := by
  have h1 := Int.mul_nonneg ha.1 hb.1
  have h2 := Int.mul_le_mul_of_nonneg_right ha.2 hb.1
  have h3 := Int.mul_le_mul_of_nonneg_left hb.2 (show 0 ≤ m by omega)
  omega
theorem fl_left {c : MCurve} {A : Nat → Int} {i : Nat} (h : Valid c) (hi : i + 1 < c.liquid.length) : fl c A i (c.liquid.getD i default) = A i := by
  have := (h.step hi).1
  unfold fl
  rw [nu_left, Int.mul_ediv_cancel _ (by omega)]
theorem low_zero {c : MCurve} (h : Valid c) : lowV c 0 = 0 := by
  obtain ⟨_, _, ⟨k, hk⟩, hv⟩ := lines_ok h (x := 0) (by omega)
  have h0 : Seg c 0 0 := ⟨by have := h.two; omega, by rw [h.first]; exact Int.le_refl _, by have := h.ends (i := 0 + 1) (by have := h.two; omega); omega⟩
  rw [(hv 0 h0).1]
  have := fl_left h (A := fun i => (c.vapour.getD i default).lo) (i := 0) (by have := h.two; omega)
  rw [h.first] at this
  rw [this]
  exact h.none
structure DrOK (p : MPot) (d : Int) (r : Dr) : Prop where
  least0 : 0 ≤ r.least
  least1 : r.least ≤ r.most
  most1 : r.most ≤ d
  most2 : r.most ≤ p.alcohol.hi
  stays0 : 0 ≤ r.stays
  stays1 : r.stays ≤ r.high
  stays2 : p.alcohol.lo ≤ r.most + r.stays
  stays3 : r.stays ≤ p.alcohol.lo
  high1 : r.high ≤ p.volume - d
  high2 : r.least + r.high ≤ p.alcohol.hi
  weak : 0 ≤ r.weak ∧ r.weak ≤ 10000
theorem dr_ok {c : MCurve} {p : MPot} {d : Int} (h : Valid c) (hp : PotOK p) (hd : 1 ≤ d ∧ d ≤ p.volume) : DrOK p d (drV c p d) := by
  obtain ⟨⟨v0, v1⟩, l0, l1, l2⟩ := hp
  have hs := str_in l0 l1 l2
  obtain ⟨s1, s2, s3⟩ := hs
  have hH := low_in h (x := (strV p.alcohol.lo p.alcohol.hi p.volume).hi) (by omega)
  have hL := low_in h (x := (strV p.alcohol.lo p.alcohol.hi p.volume).lo) (by omega)
  have hLH := (low_mono h s1 s2 s3).2
  have a2 : p.alcohol.hi * 10000 ≤ (strV p.alcohol.lo p.alcohol.hi p.volume).hi * p.volume := by
    unfold strV
    rw [if_neg (by omega)]
    have := (div_mul (a := p.alcohol.hi * 10000 + p.volume - 1) (b := p.volume) (by omega)).2
    rw [Int.add_mul, Int.one_mul] at this
    dsimp only
    omega
  unfold drV
  dsimp only
  have hw0 := str_lo (hi := 0) (n := p.volume - d) (show 0 ≤ max (p.alcohol.lo - min ((d * highV c (strV p.alcohol.lo p.alcohol.hi p.volume).hi + 9999) / 10000) p.alcohol.hi) 0 by omega) (by omega)
  have hz : p.alcohol.lo - min ((d * highV c (strV p.alcohol.lo p.alcohol.hi p.volume).hi + 9999) / 10000) p.alcohol.hi ≤ 0 → (strV (max (p.alcohol.lo - min ((d * highV c (strV p.alcohol.lo p.alcohol.hi p.volume).hi + 9999) / 10000) p.alcohol.hi) 0) 0 (p.volume - d)).lo = 0 := fun hle => by
    rw [show max (p.alcohol.lo - min ((d * highV c (strV p.alcohol.lo p.alcohol.hi p.volume).hi + 9999) / 10000) p.alcohol.hi) 0 = 0 by omega]
    unfold strV
    by_cases e : p.volume - d = 0
    · rw [if_pos e]
    · rw [if_neg e]
      simp
  generalize (strV (max (p.alcohol.lo - min ((d * highV c (strV p.alcohol.lo p.alcohol.hi p.volume).hi + 9999) / 10000) p.alcohol.hi) 0) 0 (p.volume - d)).lo = w at *
  generalize hS : (strV p.alcohol.lo p.alcohol.hi p.volume).hi = S at *
  generalize hs' : (strV p.alcohol.lo p.alcohol.hi p.volume).lo = s at *
  have hwl := low_in h (x := min w s) (by omega)
  have hwm := (low_mono h (x := min w s) (y := s) (by omega) (by omega) (by omega)).1
  have hw00 : w = 0 → lowV c (min w s) = 0 := fun e => by rw [show min w s = 0 by omega]; exact low_zero h
  generalize lowV c (min w s) = lw at *
  generalize highV c S = H at *
  have m1 := mul_le (a := d) (b := H) (m := 1073741824) (n := 10000) (by omega) (by omega)
  have m2 := Int.mul_le_mul_of_nonneg_left (show H ≤ 10000 by omega) (show 0 ≤ d by omega)
  have m3 := Int.mul_le_mul_of_nonneg_left (show lw ≤ H by omega) (show 0 ≤ d by omega)
  have m4 := Int.mul_nonneg (show 0 ≤ d by omega) (show 0 ≤ lw by omega)
  -- what is drawn at most is a fair part of all
  have fair : d * p.alcohol.hi ≤ (d * H + 9999) / 10000 * p.volume := by
    have b1 : d * H ≤ 10000 * ((d * H + 9999) / 10000) := by omega
    have b2 := Int.mul_le_mul_of_nonneg_right b1 v0
    have b3 := Int.mul_le_mul_of_nonneg_left a2 (show 0 ≤ d by omega)
    have b4 := Int.mul_le_mul_of_nonneg_right (Int.mul_le_mul_of_nonneg_left (show S ≤ H by omega) (show 0 ≤ d by omega)) v0
    rw [Int.mul_assoc d S] at b4
    rw [← Int.mul_assoc] at b3
    rw [Int.mul_assoc 10000] at b2
    omega
  have r3 : (d * H + 9999) / 10000 ≤ d := by omega
  have r30 : 0 ≤ (d * H + 9999) / 10000 := by omega
  have r3l : d * lw / 10000 ≤ (d * H + 9999) / 10000 := by omega
  have r3p : 0 ≤ d * lw / 10000 := by omega
  have hq0 : w = 0 → d * lw / 10000 = 0 := fun e => by rw [hw00 e, Int.mul_zero]; rfl
  clear m1 m2 m3 m4 a2
  generalize (d * H + 9999) / 10000 = R at *
  generalize d * lw / 10000 = q at *
  have c1 : p.alcohol.lo - (p.volume - d) ≤ R := by
    refine Int.not_lt.1 fun hlt => ?_
    have e1 := Int.mul_le_mul_of_nonneg_right (show R + 1 ≤ p.alcohol.lo - (p.volume - d) by omega) v0
    have e2 := Int.mul_le_mul_of_nonneg_left (show p.alcohol.lo ≤ p.volume by omega) (show 0 ≤ p.volume - d by omega)
    have e3 := Int.mul_le_mul_of_nonneg_left (show p.alcohol.lo ≤ p.alcohol.hi by omega) (show 0 ≤ d by omega)
    simp only [Int.sub_mul, Int.add_mul, Int.one_mul] at e1 e2
    rw [Int.mul_comm p.volume p.alcohol.lo] at e2
    omega
  have q1 : 0 ≤ p.alcohol.hi * (p.volume - d) := Int.mul_nonneg (by omega) (by omega)
  have c2 : p.alcohol.lo - R ≤ (p.alcohol.hi * (p.volume - d) + p.volume - 1) / p.volume := by
    have e0 := (div_mul (a := p.alcohol.hi * (p.volume - d) + p.volume - 1) (b := p.volume) (by omega)).2
    rw [Int.add_mul, Int.one_mul] at e0
    refine Int.le_of_mul_le_mul_right ?_ (show 0 < p.volume by omega)
    have e1 := Int.mul_le_mul_of_nonneg_right (show p.alcohol.lo ≤ p.alcohol.hi by omega) v0
    rw [Int.sub_mul]
    rw [Int.mul_sub, Int.mul_comm p.alcohol.hi d] at e0
    rw [Int.mul_sub, Int.mul_comm p.alcohol.hi d]
    omega
  have c3 := (div_in (a := p.alcohol.hi * (p.volume - d) + p.volume - 1) (b := p.volume) (by omega) (by omega)).1
  generalize (p.alcohol.hi * (p.volume - d) + p.volume - 1) / p.volume = Q at *
  have key : q ≤ min R p.alcohol.hi := by
    by_cases e : p.alcohol.lo - min R p.alcohol.hi ≤ 0
    · have := hq0 (hz e)
      omega
    · omega
  constructor <;> dsimp only <;> omega
def outV (p : MPot) (d : Int) (r : Dr) : MDrawn × MPot := (MDrawn.mk d (MSpan.mk r.least r.most), MPot.mk (p.volume - d) (MSpan.mk r.stays r.high))
theorem next_ok {p : MPot} {d : Int} {r : Dr} (hp : PotOK p) (hd : 1 ≤ d ∧ d ≤ p.volume) (h : DrOK p d r) : PotOK (outV p d r).2 := by
  obtain ⟨⟨v0, v1⟩, l0, l1, l2⟩ := hp
  have := h.stays0
  have := h.stays1
  have := h.high1
  exact ⟨⟨by show 0 ≤ p.volume - d; omega, by show p.volume - d ≤ 1073741824; omega⟩, by show 0 ≤ r.stays; omega, by show r.stays ≤ r.high; omega, by show r.high ≤ p.volume - d; omega⟩
theorem drawOf_eq {c : MCurve} {p : MPot} {d : Int} (h : Valid c) (hp : PotOK p) : drawOf FU c p d = some (if d < 1 ∨ 1073741824 < d then .error 2 else if p.volume < d then .error 10 else .ok (outV p d (drV c p d))) := by
  unfold drawOf
  by_cases h1 : d < 1 ∨ 1073741824 < d
  · rw [cond_t (by simpa using h1), if_pos h1]
  rw [cond_f (by simp; omega), if_neg h1]
  by_cases h2 : p.volume < d
  · rw [cond_t (by simpa using h2), if_pos h2]
  rw [cond_f (by simpa using h2), if_neg h2]
  have hd : 1 ≤ d ∧ d ≤ p.volume := by omega
  obtain ⟨o1, o2, o3, o4, o5, o6, o7, o8, o9, o10, o11⟩ := dr_ok h hp hd
  obtain ⟨⟨v0, v1⟩, l0, l1, l2⟩ := hp
  obtain ⟨s1, s2, s3⟩ := str_in l0 l1 l2
  unfold outV
  unfold drV at o1 o2 o3 o4 o5 o6 o7 o8 o9 o10 o11 ⊢
  dsimp only at o1 o2 o3 o4 o5 o6 o7 o8 o9 o10 o11 ⊢
  have hs : still_pot_strength (MPot.mk p.volume (MSpan.mk p.alcohol.lo p.alcohol.hi)) = some (strV p.alcohol.lo p.alcohol.hi p.volume) := by
    unfold still_pot_strength
    rw [bind_ok (strength_eq (lo := p.alcohol.lo) (hi := p.alcohol.hi) (n := p.volume) (by omega) (by omega) (by omega)).1]
  rw [grd_pos (by omega), bind_ok hs]
  generalize hS : strV p.alcohol.lo p.alcohol.hi p.volume = S at *
  have hH := low_in h (x := S.hi) (by omega)
  have m1 := mul_le (a := d) (b := highV c S.hi) (m := 1073741824) (n := 10000) (by omega) (by omega)
  rw [bind_ok (vapour_eq h (s := S) (by omega) (by omega))]
  dsimp only
  rw [grd_pos (by omega), bind_ok (up_eq (a := d * highV c S.hi) (b := 10000) (by omega) (by omega))]
  rw [show d * highV c S.hi + 10000 - 1 = d * highV c S.hi + 9999 by omega]
  generalize hR : min ((d * highV c S.hi + 9999) / 10000) p.alcohol.hi = R at *
  rw [grd_pos (by omega), bind_ok (strength_eq (lo := max (p.alcohol.lo - R) 0) (hi := 0) (n := p.volume - d) (by omega) (by omega) (by omega)).1]
  rw [bind_ok (lines_ok h (x := min (strV (max (p.alcohol.lo - R) 0) 0 (p.volume - d)).lo S.lo) o11).1]
  have hl := low_in h (x := min (strV (max (p.alcohol.lo - R) 0) 0 (p.volume - d)).lo S.lo) o11
  generalize min (strV (max (p.alcohol.lo - R) 0) 0 (p.volume - d)).lo S.lo = w at *
  have m2 := mul_le (a := d) (b := lowV c w) (m := 1073741824) (n := 10000) (by omega) (by omega)
  have e1 : still_down (d * lowV c w) 10000 = some (d * lowV c w / 10000) := by rw [still_down, tdiv_eq m2.1, grd_pos ⟨by omega, by omega⟩]
  rw [grd_pos (by omega), bind_ok e1]
  generalize d * lowV c w / 10000 = q at *
  have m3 := mul_le (a := p.alcohol.hi) (b := p.volume - d) (m := 1073741824) (n := 1073741824) (by omega) (by omega)
  rw [grd_pos (by omega), grd_pos ⟨by omega, by omega⟩, bind_ok (up_eq (by omega) (by omega))]
theorem strV_lo (a b b' n : Int) : (strV a b n).lo = (strV a b' n).lo := by
  unfold strV
  by_cases e : n = 0
  · rw [if_pos e, if_pos e]
  · rw [if_neg e, if_neg e]
theorem drawR_eq {c : MCurve} {p : MPot} {d : Int} (h : Valid c) (hp : PotOK p) (hd : 1 ≤ d ∧ d ≤ p.volume) : wormtubref04_draw FU c (MPot.mk p.volume (MSpan.mk p.alcohol.lo p.alcohol.hi)) d = some (outV p d (drV c p d)) := by
  unfold wormtubref04_draw
  obtain ⟨o1, o2, o3, o4, o5, o6, o7, o8, o9, o10, o11⟩ := dr_ok h hp hd
  obtain ⟨⟨v0, v1⟩, l0, l1, l2⟩ := hp
  obtain ⟨s1, s2, s3⟩ := str_in l0 l1 l2
  unfold outV
  unfold drV at o1 o2 o3 o4 o5 o6 o7 o8 o9 o10 o11 ⊢
  dsimp only at o1 o2 o3 o4 o5 o6 o7 o8 o9 o10 o11 ⊢
  rw [bind_ok (strength_eq (lo := p.alcohol.lo) (hi := p.alcohol.hi) (n := p.volume) (by omega) (by omega) (by omega)).2, grd_pos (by omega)]
  generalize hS : strV p.alcohol.lo p.alcohol.hi p.volume = S at *
  have hH := low_in h (x := S.hi) (by omega)
  have m1 := mul_le (a := d) (b := highV c S.hi) (m := 1073741824) (n := 10000) (by omega) (by omega)
  rw [bind_ok (vapourR_eq h (s := S) (by omega) (by omega))]
  dsimp only
  rw [grd_pos (by omega), bind_ok (upR_eq (a := d * highV c S.hi) (b := 10000) (by omega) (by omega))]
  rw [show d * highV c S.hi + 10000 - 1 = d * highV c S.hi + 9999 by omega]
  rw [Int.min_comm p.alcohol.hi]
  generalize hR : min ((d * highV c S.hi + 9999) / 10000) p.alcohol.hi = R at *
  rw [Int.max_comm 0 (p.alcohol.lo - R)]
  rw [grd_pos (by omega), bind_ok (strength_eq (lo := max (p.alcohol.lo - R) 0) (hi := max (p.alcohol.lo - R) 0) (n := p.volume - d) (by omega) (by omega) (by omega)).2, grd_pos (by omega)]
  rw [strV_lo (max (p.alcohol.lo - R) 0) (max (p.alcohol.lo - R) 0) 0 (p.volume - d), Int.min_comm S.lo]
  generalize min (strV (max (p.alcohol.lo - R) 0) 0 (p.volume - d)).lo S.lo = w at *
  rw [bind_ok (vapourR_eq h (s := MSpan.mk w w) o11 o11)]
  have hl := low_in h (x := w) o11
  dsimp only
  have m2 := mul_le (a := d) (b := lowV c w) (m := 1073741824) (n := 10000) (by omega) (by omega)
  have e2 : (d * lowV c w).tdiv 10000 = d * lowV c w / 10000 := tdiv_eq m2.1
  rw [e2, grd_pos ⟨by omega, by omega⟩]
  generalize d * lowV c w / 10000 = q at *
  have m3 := mul_le (a := p.alcohol.hi) (b := p.volume - d) (m := 1073741824) (n := 1073741824) (by omega) (by omega)
  rw [Int.max_comm (p.alcohol.lo - (p.volume - d)) q]
  rw [grd_pos ⟨by omega, by omega⟩, bind_ok (upR_eq (by omega) (by omega))]
/-- one amount after the other -/
def stepV (c : MCurve) (p : MPot) (d : Int) : Except Int (MDrawn × MPot) := if d < 1 ∨ 1073741824 < d then .error 2 else if p.volume < d then .error 10 else .ok (outV p d (drV c p d))
def handV (c : MCurve) : MPot → List Int → List MDrawn × MPot × Option Int
  | p, [] => ([], p, none)
  | p, d :: r => match stepV c p d with
    | .error k => ([], p, some k)
    | .ok y => (y.1 :: (handV c y.2 r).1, (handV c y.2 r).2)
theorem stepV_ok {c : MCurve} {p : MPot} {d : Int} {y : MDrawn × MPot} (e : stepV c p d = .ok y) : (1 ≤ d ∧ d ≤ p.volume) ∧ y = outV p d (drV c p d) := by
  unfold stepV at e
  by_cases h1 : d < 1 ∨ 1073741824 < d
  · rw [if_pos h1] at e; cases e
  rw [if_neg h1] at e
  by_cases h2 : p.volume < d
  · rw [if_pos h2] at e; cases e
  rw [if_neg h2] at e
  cases e
  exact ⟨by omega, rfl⟩
theorem hand_eq {c : MCurve} (h : Valid c) : ∀ {l : List Int} {p : MPot}, PotOK p → hand FU c p l = some (handV c p l)
  | [], p, _ => rfl
  | d :: r, p, hp => by
    rw [hand, show drawOf FU c p d = some (stepV c p d) from drawOf_eq h hp, Option.bind_some]
    unfold handV
    cases e : stepV c p d with
    | error k => rfl
    | ok y =>
      obtain ⟨hd, rfl⟩ := stepV_ok e
      have := hand_eq h (l := r) (next_ok hp hd (dr_ok h hp hd))
      dsimp only
      rw [this]
      rfl
theorem pot_valid (p : MPot) : still_pot_valid (MPot.mk p.volume (MSpan.mk p.alcohol.lo p.alcohol.hi)) = some (decide ((0 ≤ p.volume ∧ p.volume ≤ 1073741824) ∧ Okay 0 p.volume p.alcohol)) := by
  unfold still_pot_valid
  by_cases h : 0 ≤ p.volume ∧ p.volume ≤ 1073741824
  · rw [cond_t (by simpa using h), bind_ok (covers_eq _ _)]
    simp only [h.1, h.2, decide_true, Bool.and_self, Bool.true_and, and_self, true_and]
  · rw [cond_f (by refine Bool.eq_false_iff.2 fun hh => h ?_; simpa using hh), Option.bind_some]
    have e : (decide (0 ≤ p.volume) && decide (p.volume ≤ 1073741824)) = false := by refine Bool.eq_false_iff.2 fun hh => h ?_; simpa using hh
    have e2 : ¬ ((0 ≤ p.volume ∧ p.volume ≤ 1073741824) ∧ Okay 0 p.volume p.alcohol) := fun hh => h hh.1
    dsimp only
    rw [e, decide_eq_false e2]
    rfl
theorem Pot_eq (p : MPot) : wormtubref04_Pot (MPot.mk p.volume (MSpan.mk p.alcohol.lo p.alcohol.hi)) = some (decide ((0 ≤ p.volume ∧ p.volume ≤ 1073741824) ∧ Okay 0 p.volume p.alcohol)) := by
  unfold wormtubref04_Pot
  rw [bind_ok (in_eq _ _ _)]
  by_cases h : 0 ≤ p.volume ∧ p.volume ≤ 1073741824
  · rw [cond_t (by simpa using h), bind_ok (within_eq _ _ _)]
    simp only [h, decide_true, Bool.true_and, and_self, true_and]
  · rw [cond_f (by simpa using h), Option.bind_some]
    have e2 : ¬ ((0 ≤ p.volume ∧ p.volume ≤ 1073741824) ∧ Okay 0 p.volume p.alcohol) := fun hh => h hh.1
    rw [decide_eq_false e2, decide_eq_false h]
    rfl
theorem cnn {α : Type} (x y : α) : (bif (!!true) then x else y) = x := rfl
theorem cor_t {α : Type} (x y : α) : (bif ((!true) || (!true)) then x else y) = y := rfl
theorem cor_f {α : Type} (x y : α) : (bif ((!true) || (!false)) then x else y) = x := rfl
theorem cn0 {α : Type} (x y : α) : (bif ((0 : Int) != 0) then x else y) = y := rfl
/-- what check and early say -/
theorem check_eq (c : MCurve) (p : MPot) (l : List Int) (hl : c.liquid.length ≤ 140737488355328) : ∃ k, (still_check FU c (MPot.mk p.volume (MSpan.mk p.alcohol.lo p.alcohol.hi)) l = some k ∧ wormtubref04_early FU c (MPot.mk p.volume (MSpan.mk p.alcohol.lo p.alcohol.hi)) l = some k) ∧ ((64 < l.length ∧ k = 3) ∨ (l.length ≤ 64 ∧ ¬ (Valid c ∧ PotOK p) ∧ k = 1) ∨ (l.length ≤ 64 ∧ Valid c ∧ PotOK p ∧ k = 0)) := by
  unfold still_check wormtubref04_early
  by_cases h1 : 64 < l.length
  · rw [cond_t (by simp; omega), cond_t (by simp; omega)]
    exact ⟨3, ⟨rfl, rfl⟩, .inl ⟨h1, rfl⟩⟩
  rw [cond_f (by simp; omega), cond_f (by simp; omega)]
  by_cases h2 : Valid c
  · rw [bind_ok ((validCurve_eq c hl FU (by decide)).1 h2), bind_ok ((Curve_eq c hl FU (by decide)).1 h2)]
    rw [cnn, cnn, bind_ok (pot_valid p), bind_ok (Pot_eq p)]
    by_cases h3 : (0 ≤ p.volume ∧ p.volume ≤ 1073741824) ∧ Okay 0 p.volume p.alcohol
    · rw [decide_eq_true h3]
      exact ⟨0, ⟨rfl, rfl⟩, .inr (.inr ⟨by omega, h2, h3, rfl⟩)⟩
    · rw [decide_eq_false h3]
      exact ⟨1, ⟨rfl, rfl⟩, .inr (.inl ⟨by omega, fun hh => h3 hh.2, rfl⟩)⟩
  · rw [bind_ok ((validCurve_eq c hl FU (by decide)).2 h2), bind_ok ((Curve_eq c hl FU (by decide)).2 h2)]
    exact ⟨1, ⟨rfl, rfl⟩, .inr (.inl ⟨by omega, fun hh => h2 hh.1, rfl⟩)⟩
/-- Run -/
def runV (c : MCurve) (p : MPot) (l : List Int) : List MDrawn × MPot × Int := match (handV c p l).2.2 with
  | none => ((handV c p l).1, (handV c p l).2.1, 0)
  | some k => ([], MPot.mk 0 (MSpan.mk 0 0), k)
theorem outOf_hand (c : MCurve) (p : MPot) (l : List Int) : outOf (handV c p l) = runV c p l := rfl
theorem runOf_eq (c : MCurve) (p : MPot) (l : List Int) (hl : c.liquid.length ≤ 140737488355328) : (64 < l.length → runOf FU c p l = some ([], MPot.mk 0 (MSpan.mk 0 0), 3)) ∧ (l.length ≤ 64 → ¬ (Valid c ∧ PotOK p) → runOf FU c p l = some ([], MPot.mk 0 (MSpan.mk 0 0), 1)) ∧ (l.length ≤ 64 → Valid c → PotOK p → runOf FU c p l = some (runV c p l)) := by
  obtain ⟨k, ⟨hc, _⟩, hk⟩ := check_eq c p l hl
  refine ⟨fun h => ?_, fun h h2 => ?_, fun h h2 h3 => ?_⟩
  · rcases hk with ⟨_, rfl⟩ | ⟨h4, _⟩ | ⟨h4, _⟩
    · unfold runOf
      rw [bind_ok hc]
      rfl
    · omega
    · omega
  · rcases hk with ⟨h4, _⟩ | ⟨_, _, rfl⟩ | ⟨_, h4, h5, _⟩
    · omega
    · unfold runOf
      rw [bind_ok hc]
      rfl
    · exact absurd ⟨h4, h5⟩ h2
  · rcases hk with ⟨h4, _⟩ | ⟨_, h4, _⟩ | ⟨_, _, _, rfl⟩
    · omega
    · exact absurd ⟨h2, h3⟩ h4
    · unfold runOf
      rw [bind_ok hc, cn0, bind_ok (hand_eq h2 h3), grd_pos (by omega), outOf_hand]
end Go.Proofs.Ytnfahoomoelmcaa
