/- What the walked functions of layer 5 say, in closed form: the step past one point. -/
import Derived.Test.YtlcccomdijdkaaaSyAw
namespace Go.Proofs.Ytlcccomdijdkaaa
open Go.RowKit Go.Proofs.Try

theorem awake_true : wormtublaw05_awake = some true := by kernel_rfl
theorem bind_ok {α β : Type} {x : Option α} {a : α} (h : x = some a) (f : α → Option β) : x.bind f = f a := by rw [h]; rfl
theorem cond_t {α : Type} {b : Bool} (h : b = true) (x y : α) : (bif b then x else y) = x := by rw [h]; rfl
theorem cond_f {α : Type} {b : Bool} (h : b = false) (x y : α) : (bif b then x else y) = y := by rw [h]; rfl
def Okay (lo hi : Int) (s : MSpan) : Prop := lo ≤ s.lo ∧ s.lo ≤ s.hi ∧ s.hi ≤ hi
instance (lo hi : Int) (s : MSpan) : Decidable (Okay lo hi s) := inferInstanceAs (Decidable (lo ≤ s.lo ∧ s.lo ≤ s.hi ∧ s.hi ≤ hi))
theorem okay_bool (lo hi : Int) (s : MSpan) : ((decide (lo ≤ s.lo) && decide (s.lo ≤ s.hi)) && decide (s.hi ≤ hi)) = decide (Okay lo hi s) := by
  show _ = decide (lo ≤ s.lo ∧ s.lo ≤ s.hi ∧ s.hi ≤ hi)
  simp [Bool.and_assoc]
theorem tdiv_eq {a b : Int} (ha : 0 ≤ a) : a.tdiv b = a / b := Int.tdiv_eq_ediv_of_nonneg ha
theorem tmod_eq {a b : Int} (ha : 0 ≤ a) : a.tmod b = a % b := Int.tmod_eq_emod_of_nonneg ha
theorem div_in {a b : Int} (ha : 0 ≤ a) (hb : 0 < b) : 0 ≤ a / b ∧ a / b ≤ a := ⟨Int.ediv_nonneg ha (by omega), Int.ediv_le_self b ha⟩
theorem div_mul {a b : Int} (hb : 0 < b) : a / b * b ≤ a ∧ a < (a / b + 1) * b := ⟨Int.ediv_mul_le a (by omega), Int.lt_ediv_add_one_mul_self a hb⟩
/-- a quotient, rounded up -/
def cl (N D : Int) : Int := (N + D - 1) / D
theorem floor_le {N1 D1 N2 D2 : Int} (h1 : 0 < D1) (h2 : 0 < D2) (h : N1 * D2 ≤ N2 * D1) : N1 / D1 ≤ N2 / D2 := by
  refine Int.le_ediv_of_mul_le h2 (Int.le_of_mul_le_mul_right ?_ h1)
  have b := Int.mul_le_mul_of_nonneg_right (div_mul (a := N1) h1).1 (show 0 ≤ D2 by omega)
  rw [Int.mul_right_comm]
  exact Int.le_trans b h
theorem cl_mul {N D : Int} (h : 0 < D) : N ≤ cl N D * D := by
  have := (div_mul (a := N + D - 1) h).2
  rw [Int.add_mul, Int.one_mul] at this
  unfold cl
  omega
theorem cl_of {N D k : Int} (h : 0 < D) (hk : N ≤ k * D) : cl N D ≤ k := by
  refine Int.lt_add_one_iff.1 (Int.ediv_lt_of_lt_mul h ?_)
  rw [Int.add_mul, Int.one_mul]
  omega
theorem ceil_le {N1 D1 N2 D2 : Int} (h1 : 0 < D1) (h2 : 0 < D2) (h : N1 * D2 ≤ N2 * D1) : cl N1 D1 ≤ cl N2 D2 := by
  refine cl_of h1 (Int.le_of_mul_le_mul_right ?_ h2)
  have b := Int.mul_le_mul_of_nonneg_right (cl_mul (N := N2) h2) (show 0 ≤ D1 by omega)
  rw [Int.mul_right_comm]
  exact Int.le_trans h b
theorem floor_ceil {N D : Int} (h : 0 < D) : N / D ≤ cl N D := Int.ediv_le_ediv h (by omega)
theorem mean_le {t u F1 G1 F2 G2 : Int} (h : (t - u) * (F1 * G2) ≤ (t - u) * (F2 * G1)) : (t * F1 + u * G1) * (F2 + G2) ≤ (t * F2 + u * G2) * (F1 + G1) := by grind
/-- the lowest and the highest that two warmths come to, each in a share -/
def mixLo (t a b u c d : Int) : Int := if u < t then (t * a + u * d) / (a + d) else (t * b + u * c) / (b + c)
def mixHi (t a b u c d : Int) : Int := if u < t then cl (t * b + u * c) (b + c) else cl (t * a + u * d) (a + d)
structure Wts (a b c d : Int) : Prop where
  a0 : 0 ≤ a
  ab : a ≤ b
  b1 : b ≤ 1073741824
  c0 : 0 ≤ c
  cd : c ≤ d
  d1 : d ≤ 1073741824
  ad : 0 < a + d
  bc : 0 < b + c
theorem Wts.cross {a b c d : Int} (h : Wts a b c d) : a * c ≤ b * d := Int.mul_le_mul h.ab h.cd h.c0 (Int.le_trans h.a0 h.ab)
theorem Wts.less {a b c d t u : Int} (h : Wts a b c d) (hu : u < t) : (t * a + u * d) * (b + c) ≤ (t * b + u * c) * (a + d) :=
  mean_le (Int.mul_le_mul_of_nonneg_left h.cross (by omega))
theorem Wts.more {a b c d t u : Int} (h : Wts a b c d) (hu : ¬ u < t) : (t * b + u * c) * (a + d) ≤ (t * a + u * d) * (b + c) :=
  mean_le (Int.mul_le_mul_of_nonpos_left (by omega) h.cross)
theorem min_mix {a b c d t u : Int} (h : Wts a b c d) : min ((t * b + u * c) / (b + c)) ((t * a + u * d) / (a + d)) = mixLo t a b u c d := by
  unfold mixLo
  split <;> rename_i hu
  · exact Int.min_eq_right (floor_le h.ad h.bc (h.less hu))
  · exact Int.min_eq_left (floor_le h.bc h.ad (h.more hu))
theorem max_mix {a b c d t u : Int} (h : Wts a b c d) : max (cl (t * b + u * c) (b + c)) (cl (t * a + u * d) (a + d)) = mixHi t a b u c d := by
  unfold mixHi
  split <;> rename_i hu
  · exact Int.max_eq_left (ceil_le h.ad h.bc (h.less hu))
  · exact Int.max_eq_right (ceil_le h.bc h.ad (h.more hu))
/-- a product of a warmth and a weight -/
theorem prod_in {t a M : Int} (h0 : 0 ≤ t) (h1 : t ≤ M) (ha : 0 ≤ a) : 0 ≤ t * a ∧ t * a ≤ M * a := ⟨Int.mul_nonneg h0 ha, Int.mul_le_mul_of_nonneg_right h1 ha⟩
theorem mean_in {t u a d : Int} (t0 : 0 ≤ t) (t1 : t ≤ 100000) (u0 : 0 ≤ u) (u1 : u ≤ 100000) (a0 : 0 ≤ a) (d0 : 0 ≤ d) (h : 0 < a + d) : 0 ≤ (t * a + u * d) / (a + d) ∧ cl (t * a + u * d) (a + d) ≤ 100000 := by
  have p1 := prod_in t0 t1 a0
  have p2 := prod_in u0 u1 d0
  exact ⟨Int.ediv_nonneg (by omega) (by omega), cl_of h (by omega)⟩
theorem mix_ok {a b c d t u T U : Int} (h : Wts a b c d) (t0 : 0 ≤ t) (tT : t ≤ T) (T1 : T ≤ 100000) (u0 : 0 ≤ u) (uU : u ≤ U) (U1 : U ≤ 100000) : 0 ≤ mixLo t a b u c d ∧ mixLo t a b u c d ≤ mixHi T a b U c d ∧ mixHi T a b U c d ≤ 100000 := by
  obtain ⟨a0, ab, b1, c0, cd, d1, ad, bc⟩ := h
  have H : Wts a b c d := ⟨a0, ab, b1, c0, cd, d1, ad, bc⟩
  have m1 := mean_in t0 (by omega) u0 (by omega) a0 (show 0 ≤ d by omega) ad
  have m2 := mean_in t0 (by omega) u0 (by omega) (show 0 ≤ b by omega) c0 bc
  have M1 := mean_in (show 0 ≤ T by omega) T1 (show 0 ≤ U by omega) U1 a0 (show 0 ≤ d by omega) ad
  have M2 := mean_in (show 0 ≤ T by omega) T1 (show 0 ≤ U by omega) U1 (show 0 ≤ b by omega) c0 bc
  have g1 : (t * a + u * d) / (a + d) ≤ (T * a + U * d) / (a + d) := by
    have := Int.mul_le_mul_of_nonneg_right tT a0
    have := Int.mul_le_mul_of_nonneg_right uU (show 0 ≤ d by omega)
    exact Int.ediv_le_ediv ad (by omega)
  have g2 : (t * b + u * c) / (b + c) ≤ (T * b + U * c) / (b + c) := by
    have := Int.mul_le_mul_of_nonneg_right tT (show 0 ≤ b by omega)
    have := Int.mul_le_mul_of_nonneg_right uU c0
    exact Int.ediv_le_ediv bc (by omega)
  have e1 := min_mix (t := t) (u := u) H
  have e2 := max_mix (t := T) (u := U) H
  have f1 := floor_ceil (N := T * a + U * d) ad
  have f2 := floor_ceil (N := T * b + U * c) bc
  rw [← e1, ← e2]
  omega
end Go.Proofs.Ytlcccomdijdkaaa
