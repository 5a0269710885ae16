/- Layer 3 over whole numbers: mashes, hours of a vat, rooms. -/
import Derived.WalkKit
namespace Go.Proofs.Ytjcadgklamhohaa
open Go.RowKit

def upQ (a b : Int) : Int := (a + b - 1) / b
theorem upQ_bd {a b : Int} (hb : 0 < b) (ha : 0 ≤ a) : 0 ≤ upQ a b ∧ upQ a b ≤ a := by
  unfold upQ
  refine ⟨Int.ediv_nonneg (by omega) (by omega), ?_⟩
  have : (a + b - 1) / b < a + 1 := by
    rw [Int.ediv_lt_iff_lt_mul hb]
    have h1 : a * 1 ≤ a * b := Int.mul_le_mul_of_nonneg_left (by omega) ha
    have h2 : (a + 1) * b = a * b + b := by rw [Int.add_mul]; omega
    omega
  omega
theorem upQ_mono {a a' b : Int} (hb : 0 < b) (h : a ≤ a') : upQ a b ≤ upQ a' b := Int.ediv_le_ediv hb (by omega)
theorem dn_mono {a a' b : Int} (hb : 0 < b) (h : a ≤ a') : a / b ≤ a' / b := Int.ediv_le_ediv hb h
theorem dn_bd {a b : Int} (hb : 0 < b) (ha : 0 ≤ a) : 0 ≤ a / b ∧ a / b ≤ a := ⟨Int.ediv_nonneg ha (by omega), Int.ediv_le_self _ ha⟩
theorem upQ_le {a b n : Int} (hb : 0 < b) (h : a ≤ n * b) : upQ a b ≤ n := by
  unfold upQ
  have : (a + b - 1) / b < n + 1 := by
    rw [Int.ediv_lt_iff_lt_mul hb, Int.add_mul]
    omega
  omega
theorem le_upQ {a b : Int} (hb : 0 < b) : a ≤ upQ a b * b := by
  unfold upQ
  have := Int.lt_ediv_add_one_mul_self (a + b - 1) hb
  rw [Int.add_mul] at this
  omega
theorem upQ_iff {a b n : Int} (hb : 0 < b) : upQ a b ≤ n ↔ a ≤ n * b := ⟨fun h => Int.le_trans (le_upQ hb) (Int.mul_le_mul_of_nonneg_right h (by omega)), upQ_le hb⟩
theorem dn_le {a b : Int} (hb : 0 < b) : a / b * b ≤ a := Int.ediv_mul_le a (by omega)
theorem le_dn {a b n : Int} (hb : 0 < b) (h : n * b ≤ a) : n ≤ a / b := (Int.le_ediv_iff_mul_le hb).2 h
theorem prod_bd {a b A B : Int} (ha : 0 ≤ a) (hA : a ≤ A) (hb : 0 ≤ b) (hB : b ≤ B) : 0 ≤ a * b ∧ a * b ≤ A * B :=
  ⟨Int.mul_nonneg ha hb, Int.mul_le_mul hA hB hb (Int.le_trans ha hA)⟩
theorem prod_mono {a b A B : Int} (ha : 0 ≤ a) (hA : a ≤ A) (hb : 0 ≤ b) (hB : b ≤ B) : a * b ≤ A * B := (prod_bd ha hA hb hB).2

/-- a span within limits -/
def SpIn (lo hi a b : Int) : Prop := lo ≤ a ∧ a ≤ b ∧ b ≤ hi
instance (lo hi a b : Int) : Decidable (SpIn lo hi a b) := by unfold SpIn; infer_instance

/-! mashes -/
def MashOk (g m x1 x2 h1 h2 : Int) : Prop := (1 ≤ g ∧ g ≤ 16777216) ∧ (1 ≤ m ∧ m ≤ 16777216) ∧ SpIn 0 1000 x1 x2 ∧ SpIn 0 10000 h1 h2
instance (g m x1 x2 h1 h2 : Int) : Decidable (MashOk g m x1 x2 h1 h2) := by unfold MashOk; infer_instance
/-- the wort, what is lost, the error -/
structure Wort where
  s1 : Int
  s2 : Int
  v1 : Int
  v2 : Int
  l1 : Int
  l2 : Int
  k : Int
def volLo (g m h2 : Int) : Int := m - upQ (g * h2) 1000
def volHi (g m h1 : Int) : Int := m - g * h1 / 1000
def mashR (g m x1 x2 h1 h2 : Int) : Wort :=
  if MashOk g m x1 x2 h1 h2 then
    (if volLo g m h2 < 1 then ⟨0, 0, 0, 0, 0, 0, 10⟩
     else ⟨g * x1 * volLo g m h2 / (1000 * m), upQ (g * x2 * volHi g m h1) (1000 * m), volLo g m h2, volHi g m h1, g * x1 * (m - volHi g m h1) / (1000 * m), upQ (g * x2 * (m - volLo g m h2)) (1000 * m), 0⟩)
  else ⟨0, 0, 0, 0, 0, 0, 1⟩
/-- what is held back, and the volumes, are small -/
theorem vol_bd {g m x1 x2 h1 h2 : Int} (h : MashOk g m x1 x2 h1 h2) : (0 ≤ g * h1 ∧ g * h1 ≤ 167772160000) ∧ (0 ≤ g * h2 ∧ g * h2 ≤ 167772160000) ∧ (0 ≤ g * h1 / 1000 ∧ g * h1 / 1000 ≤ 167772160) ∧ (0 ≤ upQ (g * h2) 1000 ∧ upQ (g * h2) 1000 ≤ 167772160) ∧ volHi g m h1 ≤ m ∧ volLo g m h2 ≤ volHi g m h1 := by
  obtain ⟨⟨g0, g1⟩, ⟨m0, m1⟩, ⟨x0, x1, x2⟩, ⟨y0, y1, y2⟩⟩ := h
  have e1 := prod_bd (A := 16777216) (B := 10000) (by omega) g1 y0 (by omega)
  have e2 := prod_bd (A := 16777216) (B := 10000) (by omega) g1 (show 0 ≤ h2 by omega) (by omega)
  have e3 := prod_mono (a := g) (A := g) (by omega) (Int.le_refl _) y0 y1
  unfold volLo volHi upQ
  omega

/-! vats -/
structure VatV where
  s1 : Int
  s2 : Int
  e1 : Int
  e2 : Int
  p1 : Int
  p2 : Int
  g1 : Int
  g2 : Int
  o1 : Int
  o2 : Int
  t1 : Int
  t2 : Int
  c : Int
  deriving DecidableEq
def VatV.cells (v : VatV) : Array Value := #[.int .i64 v.s1, .int .i64 v.s2, .int .i64 v.e1, .int .i64 v.e2, .int .i64 v.p1, .int .i64 v.p2, .int .i64 v.g1, .int .i64 v.g2, .int .i64 v.o1, .int .i64 v.o2, .int .i64 v.t1, .int .i64 v.t2, .int .i64 v.c]
def VatV.zero : VatV := ⟨0, 0, 0, 0, 0, 0, 0, 0, 0, 0, 0, 0, 0⟩
/-- the spans of a vat are within the limits -/
def SpansOk (v : VatV) : Prop := SpIn 0 1073741824 v.s1 v.s2 ∧ SpIn 0 1073741824 v.e1 v.e2 ∧ SpIn 0 1073741824 v.p1 v.p2 ∧ SpIn 0 1073741824 v.g1 v.g2 ∧ SpIn 0 1073741824 v.o1 v.o2 ∧ SpIn (-50000) 150000 v.t1 v.t2
instance (v : VatV) : Decidable (SpansOk v) := by unfold SpansOk; infer_instance
def VatOk (v : VatV) : Prop := SpansOk v ∧ 1 ≤ v.c ∧ v.c ≤ 1099511627776
instance (v : VatV) : Decidable (VatOk v) := by unfold VatOk; infer_instance

/-! yeasts -/
structure YeastV where
  ts : List Int
  rs : List (Int × Int)
  p1 : Int
  p2 : Int
  g1 : Int
  g2 : Int
  h1 : Int
  h2 : Int
def tempAt (y : YeastV) (i : Nat) : Int := y.ts[i]?.getD 0
def rateAt (y : YeastV) (i : Nat) : Int × Int := y.rs[i]?.getD (0, 0)
def TempsOk (y : YeastV) (n : Nat) : Prop := ∀ i, i < n → (-50000 ≤ tempAt y i ∧ tempAt y i ≤ 150000) ∧ (0 < i → tempAt y (i - 1) < tempAt y i)
def RatesOk (y : YeastV) (n : Nat) : Prop := ∀ i, i < n → SpIn 0 1000 (rateAt y i).1 (rateAt y i).2
structure YeastOk (y : YeastV) : Prop where
  len : y.ts.length ≤ 16
  rates : y.rs.length = y.ts.length + 1
  temps : TempsOk y y.ts.length
  parts : RatesOk y y.rs.length
  p : SpIn 0 1000 y.p1 y.p2
  g : SpIn 0 1000 y.g1 y.g2
  h : SpIn 0 10000 y.h1 y.h2
/-- the span t1..t2 has a temperature of the range i -/
def touches (y : YeastV) (t1 t2 : Int) (i : Nat) : Prop := i ≤ y.ts.length ∧ (i < y.ts.length → t1 < tempAt y i) ∧ (0 < i → tempAt y (i - 1) ≤ t2)
instance (y : YeastV) (t1 t2 : Int) (i : Nat) : Decidable (touches y t1 t2 i) := by unfold touches; infer_instance
/-- the least Lo and the greatest Hi of the ranges of which the span has a temperature -/
def RateIs (y : YeastV) (t1 t2 r1 r2 : Int) : Prop :=
  ((∃ i, touches y t1 t2 i ∧ (rateAt y i).1 = r1) ∧ ∀ i, touches y t1 t2 i → r1 ≤ (rateAt y i).1) ∧ (∃ i, touches y t1 t2 i ∧ (rateAt y i).2 = r2) ∧ ∀ i, touches y t1 t2 i → (rateAt y i).2 ≤ r2
theorem RateIs.uniq {y : YeastV} {t1 t2 r1 r2 q1 q2 : Int} (h : RateIs y t1 t2 r1 r2) (k : RateIs y t1 t2 q1 q2) : q1 = r1 ∧ q2 = r2 := by
  obtain ⟨⟨⟨i, h1, h2⟩, h3⟩, ⟨j, h4, h5⟩, h6⟩ := h
  obtain ⟨⟨⟨a, k1, k2⟩, k3⟩, ⟨b, k4, k5⟩, k6⟩ := k
  have := h3 a k1
  have := k3 i h1
  have := h6 b k4
  have := k6 j h4
  omega
/-- the ranges up to n of which the span has a temperature -/
def rateN (y : YeastV) (t1 t2 : Int) : Nat → Int × Int
  | 0 => (1000, 0)
  | n + 1 => if touches y t1 t2 n then (min (rateN y t1 t2 n).1 (rateAt y n).1, max (rateN y t1 t2 n).2 (rateAt y n).2) else rateN y t1 t2 n
def rateR (y : YeastV) (t1 t2 : Int) : Int × Int := rateN y t1 t2 y.rs.length
theorem rateN_is {y : YeastV} {t1 t2 : Int} (hr : RatesOk y y.rs.length) : ∀ n, n ≤ y.rs.length →
    ((∀ i, i < n → touches y t1 t2 i → (rateN y t1 t2 n).1 ≤ (rateAt y i).1 ∧ (rateAt y i).2 ≤ (rateN y t1 t2 n).2) ∧
    ((∃ i, i < n ∧ touches y t1 t2 i) → (∃ i, i < n ∧ touches y t1 t2 i ∧ (rateAt y i).1 = (rateN y t1 t2 n).1) ∧ (∃ i, i < n ∧ touches y t1 t2 i ∧ (rateAt y i).2 = (rateN y t1 t2 n).2)) ∧
    ((¬ ∃ i, i < n ∧ touches y t1 t2 i) → rateN y t1 t2 n = (1000, 0)))
  | 0, _ => ⟨fun i h => by omega, fun ⟨i, h, _⟩ => by omega, fun _ => rfl⟩
  | n + 1, hn => by
    obtain ⟨h1, h2, h3⟩ := rateN_is hr n (by omega)
    by_cases ht : touches y t1 t2 n
    · have e : rateN y t1 t2 (n + 1) = (min (rateN y t1 t2 n).1 (rateAt y n).1, max (rateN y t1 t2 n).2 (rateAt y n).2) := by rw [rateN, if_pos ht]
      rw [e]
      refine ⟨fun i hi hti => ?_, fun _ => ?_, fun hno => absurd ⟨n, by omega, ht⟩ hno⟩
      · simp only
        by_cases hin : i = n
        · subst hin; omega
        · have := h1 i (by omega) hti
          omega
      · simp only
        by_cases hex : ∃ i, i < n ∧ touches y t1 t2 i
        · obtain ⟨⟨i, k1, k2, k3⟩, ⟨j, k4, k5, k6⟩⟩ := h2 hex
          constructor
          · by_cases hm : (rateN y t1 t2 n).1 ≤ (rateAt y n).1
            · exact ⟨i, by omega, k2, by omega⟩
            · exact ⟨n, by omega, ht, by omega⟩
          · by_cases hm : (rateAt y n).2 ≤ (rateN y t1 t2 n).2
            · exact ⟨j, by omega, k5, by omega⟩
            · exact ⟨n, by omega, ht, by omega⟩
        · have := h3 hex
          rw [this]
          obtain ⟨a1, a2, a3⟩ := hr n (by omega)
          simp only
          exact ⟨⟨n, by omega, ht, by omega⟩, ⟨n, by omega, ht, by omega⟩⟩
    · have e : rateN y t1 t2 (n + 1) = rateN y t1 t2 n := by rw [rateN, if_neg ht]
      rw [e]
      refine ⟨fun i hi hti => ?_, fun ⟨i, hi, hti⟩ => ?_, fun hno => h3 fun ⟨i, hi, hti⟩ => hno ⟨i, by omega, hti⟩⟩
      · by_cases hin : i = n
        · subst hin; exact absurd hti ht
        · exact h1 i (by omega) hti
      · by_cases hin : i = n
        · subst hin; exact absurd hti ht
        · obtain ⟨⟨i1, k1, k2, k3⟩, ⟨j, k4, k5, k6⟩⟩ := h2 ⟨i, by omega, hti⟩
          exact ⟨⟨i1, by omega, k2, k3⟩, ⟨j, by omega, k5, k6⟩⟩
/-- how many temperatures from the first one on are at most t -/
def rangeN (y : YeastV) (t : Int) : Nat → Nat
  | 0 => 0
  | n + 1 => if rangeN y t n = n ∧ n < y.ts.length ∧ tempAt y n ≤ t then n + 1 else rangeN y t n
def rangeR (y : YeastV) (t : Int) : Nat := rangeN y t y.ts.length
theorem temps_mono {y : YeastV} (h : TempsOk y y.ts.length) : ∀ (d i : Nat), i + d < y.ts.length → tempAt y i ≤ tempAt y (i + d)
  | 0, i, _ => Int.le_refl _
  | d + 1, i, hd => by
    have h1 := temps_mono h d i (by omega)
    have h2 := (h (i + (d + 1)) hd).2 (by omega)
    rw [show i + (d + 1) - 1 = i + d by omega] at h2
    omega
theorem temps_le {y : YeastV} (h : TempsOk y y.ts.length) {i j : Nat} (hij : i ≤ j) (hj : j < y.ts.length) : tempAt y i ≤ tempAt y j := by
  have := temps_mono h (j - i) i (by omega)
  rwa [show i + (j - i) = j by omega] at this
/-- the range of a temperature -/
def RangeIs (y : YeastV) (t : Int) (i : Nat) : Prop := i ≤ y.ts.length ∧ (∀ j, j < i → tempAt y j ≤ t) ∧ (i < y.ts.length → t < tempAt y i)
theorem RangeIs.uniq {y : YeastV} {t : Int} {i j : Nat} (h : RangeIs y t i) (k : RangeIs y t j) : j = i := by
  obtain ⟨h1, h2, h3⟩ := h
  obtain ⟨k1, k2, k3⟩ := k
  rcases Nat.lt_trichotomy i j with e | e | e
  · have := k2 i e; have := h3 (by omega); omega
  · exact e.symm
  · have := h2 j e; have := k3 (by omega); omega
theorem rangeN_is {y : YeastV} {t : Int} : ∀ n, n ≤ y.ts.length → rangeN y t n ≤ n ∧ (∀ j, j < rangeN y t n → tempAt y j ≤ t) ∧ (rangeN y t n < n → t < tempAt y (rangeN y t n))
  | 0, _ => ⟨Nat.le_refl _, fun j hj => by simp [rangeN] at hj, fun h => by simp [rangeN] at h⟩
  | n + 1, hn => by
    obtain ⟨h1, h2, h3⟩ := rangeN_is (y := y) (t := t) n (by omega)
    by_cases c : rangeN y t n = n ∧ n < y.ts.length ∧ tempAt y n ≤ t
    · have e : rangeN y t (n + 1) = n + 1 := by rw [rangeN, if_pos c]
      rw [e]
      refine ⟨Nat.le_refl _, fun j hj => ?_, fun h => by omega⟩
      by_cases hjn : j = n
      · subst hjn; exact c.2.2
      · exact h2 j (by omega)
    · have e : rangeN y t (n + 1) = rangeN y t n := by rw [rangeN, if_neg c]
      rw [e]
      refine ⟨by omega, h2, fun h => ?_⟩
      by_cases hlt : rangeN y t n < n
      · exact h3 hlt
      · have hn' : rangeN y t n = n := by omega
        rw [hn']
        have : ¬ tempAt y n ≤ t := fun hle => c ⟨hn', by omega, hle⟩
        omega
theorem rangeR_is (y : YeastV) (t : Int) : RangeIs y t (rangeR y t) := rangeN_is y.ts.length (Nat.le_refl _)
theorem range_le {y : YeastV} {t1 t2 : Int} {i j : Nat} (h : t1 ≤ t2) (hi : RangeIs y t1 i) (hj : RangeIs y t2 j) : i ≤ j := by
  obtain ⟨h1, h2, h3⟩ := hi
  obtain ⟨k1, k2, k3⟩ := hj
  rcases Nat.lt_or_ge j i with e | e
  · have := h2 j e; have := k3 (by omega); omega
  · exact e
theorem touches_iff {y : YeastV} {t1 t2 : Int} {i j n : Nat} (hy : TempsOk y y.ts.length) (hi : RangeIs y t1 i) (hj : RangeIs y t2 j) : touches y t1 t2 n ↔ i ≤ n ∧ n ≤ j := by
  obtain ⟨h1, h2, h3⟩ := hi
  obtain ⟨k1, k2, k3⟩ := hj
  constructor
  · rintro ⟨a1, a2, a3⟩
    constructor
    · rcases Nat.lt_or_ge n i with e | e
      · have := h2 n e; have := a2 (by omega); omega
      · exact e
    · rcases Nat.lt_or_ge j n with e | e
      · have b1 := k3 (by omega)
        have b2 := a3 (by omega)
        have b3 := temps_le hy (i := j) (j := n - 1) (by omega) (by omega)
        omega
      · exact e
  · rintro ⟨a1, a2⟩
    refine ⟨by omega, fun h => ?_, fun h => k2 (n - 1) (by omega)⟩
    rcases Nat.lt_or_ge i y.ts.length with e | e
    · have b1 := h3 e
      have b2 := temps_le hy a1 h
      omega
    · omega
theorem rateR_is {y : YeastV} {t1 t2 : Int} (hy : YeastOk y) (ht : t1 ≤ t2) : RateIs y t1 t2 (rateR y t1 t2).1 (rateR y t1 t2).2 := by
  have hi := rangeR_is y t1
  have hj := rangeR_is y t2
  have hle := range_le ht hi hj
  have hex : ∃ i, i < y.rs.length ∧ touches y t1 t2 i := ⟨rangeR y t1, by have := hi.1; have := hy.rates; omega, (touches_iff hy.temps hi hj).2 ⟨Nat.le_refl _, hle⟩⟩
  obtain ⟨h1, h2, _⟩ := rateN_is (t1 := t1) (t2 := t2) hy.parts y.rs.length (Nat.le_refl _)
  obtain ⟨⟨a, k1, k2, k3⟩, ⟨b, k4, k5, k6⟩⟩ := h2 hex
  have hlt : ∀ i, touches y t1 t2 i → i < y.rs.length := fun i h => by have := h.1; have := hy.rates; omega
  exact ⟨⟨⟨a, k2, k3⟩, fun i hti => (h1 i (hlt i hti) hti).1⟩, ⟨b, k5, k6⟩, fun i hti => (h1 i (hlt i hti) hti).2⟩
theorem RateIs.bd {y : YeastV} {t1 t2 r1 r2 : Int} (hy : YeastOk y) (h : RateIs y t1 t2 r1 r2) : SpIn 0 1000 r1 r2 := by
  obtain ⟨⟨⟨i, h1, h2⟩, h3⟩, ⟨j, h4, h5⟩, h6⟩ := h
  have hlt : ∀ i, touches y t1 t2 i → i < y.rs.length := fun i h => by have := h.1; have := hy.rates; omega
  obtain ⟨a1, a2, a3⟩ := hy.parts i (hlt i h1)
  obtain ⟨b1, b2, b3⟩ := hy.parts j (hlt j h4)
  have c1 := h6 i h1
  refine ⟨by omega, by omega, by omega⟩

/-! an hour -/
def hourV (y : YeastV) (v : VatV) (c1 c2 r1 r2 : Int) : VatV :=
  let a1 := v.s1 * r1 / 1000
  let a2 := upQ (v.s2 * r2) 1000
  let o1 := a1 * y.g1 / 1000
  let o2 := upQ (a2 * y.g2) 1000
  ⟨v.s1 * (1000 - r2) / 1000, upQ (v.s2 * (1000 - r1)) 1000, v.e1 + a1, v.e2 + a2, v.p1 + a1 * y.p1 / 1000, v.p2 + upQ (a2 * y.p2) 1000, v.g1 + o1, v.g2 + o2, o1, o2,
    v.t1 + a1 * y.h1 * 1000 / v.c - c2, v.t2 + upQ (a2 * y.h2 * 1000) v.c - c1, v.c⟩
def hourR (y : YeastV) (v : VatV) (c1 c2 : Int) : VatV := hourV y v c1 c2 (rateR y v.t1 v.t2).1 (rateR y v.t1 v.t2).2
def CoolOk (c : Int × Int) : Prop := SpIn 0 150000 c.1 c.2
instance (c : Int × Int) : Decidable (CoolOk c) := by unfold CoolOk; infer_instance
/-- the sizes of all that is reckoned in an hour -/
structure HourBd (y : YeastV) (v : VatV) (r1 r2 : Int) : Prop where
  a1 : 0 ≤ v.s1 * r1 ∧ v.s1 * r1 ≤ 1073741824000
  a2 : 0 ≤ v.s2 * r2 ∧ v.s2 * r2 ≤ 1073741824000
  q1 : 0 ≤ v.s1 * r1 / 1000 ∧ v.s1 * r1 / 1000 ≤ 1073741824
  q2 : 0 ≤ upQ (v.s2 * r2) 1000 ∧ upQ (v.s2 * r2) 1000 ≤ 1073741824
  b1 : 0 ≤ v.s1 * (1000 - r2) ∧ v.s1 * (1000 - r2) ≤ 1073741824000
  b2 : 0 ≤ v.s2 * (1000 - r1) ∧ v.s2 * (1000 - r1) ≤ 1073741824000
theorem thou_bd {a b : Int} (ha : 0 ≤ a ∧ a ≤ 1073741824) (hb : 0 ≤ b ∧ b ≤ 1000) : (0 ≤ a * b ∧ a * b ≤ 1073741824000) ∧ (0 ≤ a * b / 1000 ∧ a * b / 1000 ≤ 1073741824) ∧ 0 ≤ upQ (a * b) 1000 ∧ upQ (a * b) 1000 ≤ 1073741824 := by
  have h := prod_bd ha.1 ha.2 hb.1 hb.2
  unfold upQ
  omega
theorem hourBd {y : YeastV} {v : VatV} {r1 r2 : Int} (hv : SpansOk v) (hr : SpIn 0 1000 r1 r2) : HourBd y v r1 r2 := by
  obtain ⟨⟨s0, s1, s2⟩, _⟩ := hv
  obtain ⟨r0, r1', r2'⟩ := hr
  have h1 := thou_bd (a := v.s1) (b := r1) ⟨s0, by omega⟩ ⟨r0, by omega⟩
  have h2 := thou_bd (a := v.s2) (b := r2) ⟨by omega, s2⟩ ⟨by omega, r2'⟩
  have h3 := thou_bd (a := v.s1) (b := 1000 - r2) ⟨s0, by omega⟩ ⟨by omega, by omega⟩
  have h4 := thou_bd (a := v.s2) (b := 1000 - r1) ⟨by omega, s2⟩ ⟨by omega, by omega⟩
  exact ⟨h1.1, h2.1, h1.2.1, h2.2.2, h3.1, h4.1⟩
/-- the heat of an hour -/
theorem heat_bd {a h c : Int} (ha : 0 ≤ a ∧ a ≤ 1073741824) (hh : 0 ≤ h ∧ h ≤ 10000) (hc : 1 ≤ c) : (0 ≤ a * h ∧ a * h ≤ 10737418240000) ∧ (0 ≤ a * h * 1000 ∧ a * h * 1000 ≤ 10737418240000000) ∧ (0 ≤ a * h * 1000 / c ∧ a * h * 1000 / c ≤ 10737418240000000) ∧ 0 ≤ upQ (a * h * 1000) c ∧ upQ (a * h * 1000) c ≤ 10737418240000000 := by
  have h1 := prod_bd ha.1 ha.2 hh.1 hh.2
  have h2 : 0 ≤ a * h * 1000 ∧ a * h * 1000 ≤ 10737418240000000 := by omega
  have h3 := upQ_bd (show 0 < c by omega) h2.1
  have h4 := dn_bd (show 0 < c by omega) h2.1
  refine ⟨by omega, by omega, by omega, by omega, by omega⟩

/-! rooms -/
def boundR (m v : Int) : Int := if m = 0 then 0 else upQ (m * (1000 - v)) v
/-- amount and error -/
def BoundIs (m v b k : Int) : Prop :=
  (¬ ((0 ≤ m ∧ m ≤ 1073741824) ∧ 0 ≤ v ∧ v ≤ 1000) ∧ b = 0 ∧ k = 2) ∨ (((0 ≤ m ∧ m ≤ 1073741824) ∧ 0 ≤ v ∧ v ≤ 1000) ∧ ((v = 0 ∧ m ≠ 0 ∧ b = 0 ∧ k = 12) ∨ ((v ≠ 0 ∨ m = 0) ∧ b = boundR m v ∧ k = 0)))
theorem BoundIs.uniq {m v b k b' k' : Int} (h : BoundIs m v b k) (h' : BoundIs m v b' k') : b' = b ∧ k' = k := by
  unfold BoundIs at h h'
  omega
theorem bound_bd {m v : Int} (hm : 0 ≤ m ∧ m ≤ 1073741824) (hv : 0 ≤ v ∧ v ≤ 1000) (h : v ≠ 0 ∨ m = 0) : 0 ≤ boundR m v ∧ boundR m v ≤ 1073741824000 := by
  unfold boundR
  split
  · omega
  · have e1 := prod_bd (B := 1000) hm.1 hm.2 (show 0 ≤ 1000 - v by omega) (by omega)
    have e2 := upQ_bd (show 0 < v by omega) e1.1
    omega
/-- v is enough -/
def Enough (m l v : Int) : Prop := (v ≠ 0 ∨ m = 0) ∧ boundR m v + m ≤ l
instance (m l v : Int) : Decidable (Enough m l v) := by unfold Enough; infer_instance
def VentIs (m l v k : Int) : Prop :=
  (¬ ((0 ≤ m ∧ m ≤ 1073741824) ∧ 0 ≤ l ∧ l ≤ 1073741824) ∧ v = 0 ∧ k = 2) ∨ (((0 ≤ m ∧ m ≤ 1073741824) ∧ 0 ≤ l ∧ l ≤ 1073741824) ∧
    ((v = 0 ∧ k = 12 ∧ ∀ i : Int, 0 ≤ i → i ≤ 1000 → ¬ Enough m l i) ∨ (k = 0 ∧ 0 ≤ v ∧ v ≤ 1000 ∧ Enough m l v ∧ ∀ i : Int, 0 ≤ i → i < v → ¬ Enough m l i)))
theorem VentIs.uniq {m l v k v' k' : Int} (h : VentIs m l v k) (h' : VentIs m l v' k') : v' = v ∧ k' = k := by
  rcases h with ⟨h1, h2, h3⟩ | ⟨h1, ⟨h2, h3, h4⟩ | ⟨h2, h3, h4, h5, h6⟩⟩ <;> rcases h' with ⟨g1, g2, g3⟩ | ⟨g1, ⟨g2, g3, g4⟩ | ⟨g2, g3, g4, g5, g6⟩⟩ <;> first
    | contradiction
    | (exact ⟨by omega, by omega⟩)
    | (exact absurd g5 (h4 _ g3 g4))
    | (exact absurd h5 (g4 _ h3 h4))
    | skip
  rcases Int.lt_trichotomy v v' with e | e | e
  · exact absurd h5 (g6 v h3 e)
  · exact ⟨e.symm, by omega⟩
  · exact absurd g5 (h6 v' g3 e)
end Go.Proofs.Ytjcadgklamhohaa
