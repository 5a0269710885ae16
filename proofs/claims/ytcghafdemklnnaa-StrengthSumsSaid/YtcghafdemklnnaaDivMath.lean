/- The arithmetic of a long division by two digits. -/
import Derived.Test.YtcghafdemklnnaaLow
namespace Go.Proofs.Ytcghafdemklnnaa

/-- a digit that is tried: never too little, and with what is left of the first digit -/
structure Digit (a b u v q r : Int) : Prop where
  left : q * a + r = u
  most : u * 4294967296 + v < (q + 1) * (a * 4294967296 + b)
  q0 : 0 ≤ q
  q1 : q ≤ 4294967297
  r0 : 0 ≤ r
structure Divs (a b u v : Int) : Prop where
  a0 : 2147483648 ≤ a
  a1 : a < 4294967296
  b0 : 0 ≤ b
  b1 : b < 4294967296
  u0 : 0 ≤ u
  u1 : u < a * 4294967296 + b
  v0 : 0 ≤ v
  v1 : v < 4294967296

section
variable {a b u v q r : Int}
theorem Digit.start (h : Divs a b u v) : Digit a b u v (u / a) (u % a) := by
  obtain ⟨a0, a1, b0, b1, u0, u1, v0, v1⟩ := h
  have e1 := Int.emod_add_mul_ediv u a
  have e2 := Int.emod_nonneg u (by omega : a ≠ 0)
  have e3 := Int.emod_lt_of_pos u (by omega : 0 < a)
  have e4 : 0 ≤ u / a := Int.ediv_nonneg u0 (by omega)
  generalize u / a = q at *
  generalize u % a = r at *
  have c : a * q = q * a := Int.mul_comm _ _
  have m1 : (q + 1) * (a * 4294967296 + b) = (q + 1) * a * 4294967296 + (q + 1) * b := by rw [Int.mul_add, Int.mul_assoc]
  have m2 : (q + 1) * a = q * a + a := by rw [Int.add_mul]; omega
  have m3 : 0 ≤ (q + 1) * b := Int.mul_nonneg (by omega) b0
  refine ⟨by omega, ?_, e4, ?_, e2⟩
  · rw [m1, m2]; omega
  · have : q < 4294967298 := by
      rcases Int.lt_or_le q 4294967298 with h | h
      · exact h
      · have : 4294967298 * a ≤ q * a := Int.mul_le_mul_of_nonneg_right h (by omega)
        omega
    omega
theorem Digit.over (h : Divs a b u v) (d : Digit a b u v q r) (ht : 4294967296 ≤ q ∨ 4294967296 * r + v < q * b) : u * 4294967296 + v < q * (a * 4294967296 + b) ∧ 1 ≤ q := by
  obtain ⟨a0, a1, b0, b1, u0, u1, v0, v1⟩ := h
  obtain ⟨l, m, q0, q1, r0⟩ := d
  have m1 : q * (a * 4294967296 + b) = q * a * 4294967296 + q * b := by rw [Int.mul_add, Int.mul_assoc]
  have key : u * 4294967296 + v < q * (a * 4294967296 + b) := by
    rcases ht with h | h
    · have : 4294967296 * (a * 4294967296 + b) ≤ q * (a * 4294967296 + b) := Int.mul_le_mul_of_nonneg_right h (by omega)
      omega
    · rw [m1]; omega
  refine ⟨key, ?_⟩
  rcases Int.lt_or_le q 1 with h | h
  · have : q = 0 := by omega
    subst this
    omega
  · exact h
theorem Digit.next (h : Divs a b u v) (d : Digit a b u v q r) (ht : 4294967296 ≤ q ∨ 4294967296 * r + v < q * b) : Digit a b u v (q - 1) (r + a) ∧ q - 1 ≤ 4294967296 := by
  obtain ⟨k1, k2⟩ := d.over h ht
  obtain ⟨l, m, q0, q1, r0⟩ := d
  have m2 : (q - 1) * a = q * a - a := by rw [Int.sub_mul]; omega
  refine ⟨⟨by omega, ?_, by omega, by omega, by have := h.a0; omega⟩, by omega⟩
  rw [show q - 1 + 1 = q by omega]
  exact k1
theorem Digit.done (h : Divs a b u v) (d : Digit a b u v q r) (ht : q * b ≤ 4294967296 * r + v) : q = (u * 4294967296 + v) / (a * 4294967296 + b) ∧ q < 4294967296 := by
  obtain ⟨a0, a1, b0, b1, u0, u1, v0, v1⟩ := h
  obtain ⟨l, m, q0, q1, r0⟩ := d
  have m1 : q * (a * 4294967296 + b) = q * a * 4294967296 + q * b := by rw [Int.mul_add, Int.mul_assoc]
  have k1 : q * (a * 4294967296 + b) ≤ u * 4294967296 + v := by rw [m1]; omega
  have hy : 0 < a * 4294967296 + b := by omega
  constructor
  · have e1 : q ≤ (u * 4294967296 + v) / (a * 4294967296 + b) := (Int.le_ediv_iff_mul_le hy).2 k1
    have e2 : (u * 4294967296 + v) / (a * 4294967296 + b) < q + 1 := (Int.ediv_lt_iff_lt_mul hy).2 m
    omega
  · rcases Int.lt_or_le q 4294967296 with h | h
    · exact h
    · have : 4294967296 * (a * 4294967296 + b) ≤ q * (a * 4294967296 + b) := Int.mul_le_mul_of_nonneg_right h (by omega)
      omega
theorem Digit.late (h : Divs a b u v) (d : Digit a b u v q r) (hq : q ≤ 4294967296) (hr : 4294967296 ≤ r) : q = (u * 4294967296 + v) / (a * 4294967296 + b) ∧ q < 4294967296 := by
  refine d.done h ?_
  have h1 : q * b ≤ 4294967296 * 4294967295 := Int.mul_le_mul hq (by have := h.b1; omega) h.b0 (by omega)
  have := h.v0
  omega
theorem Digit.prod (h : Divs a b u v) (d : Digit a b u v q r) : 0 ≤ q * b ∧ q * b ≤ 18446744073709551615 := by
  have h1 : q * b ≤ 4294967297 * 4294967295 := Int.mul_le_mul d.q1 (by have := h.b1; omega) h.b0 (by omega)
  exact ⟨Int.mul_nonneg d.q0 h.b0, by omega⟩
end

theorem wrap_sub {x v z : Int} (h0 : 0 ≤ x + v - z) (h1 : x + v - z ≤ 18446744073709551615) : IntKind.u64.wrap (IntKind.u64.wrap (IntKind.u64.wrap x + v) - IntKind.u64.wrap z) = x + v - z := by
  simp only [IntKind.wrap, IntKind.bits, IntKind.signed]
  simp
  omega

theorem shift_math {h l y : Int} {s : Nat} (h0 : 0 < h) (hy : h < y) (l0 : 0 ≤ l) (l1 : l ≤ 18446744073709551615) (s1 : s ≤ 63) (s2 : 9223372036854775808 ≤ y * 2 ^ s) (s3 : y * 2 ^ s ≤ 18446744073709551615) :
    (0 ≤ h * 2 ^ s ∧ h * 2 ^ s ≤ 18446744073709551615) ∧ (0 ≤ l / 2 ^ (64 - s) ∧ l / 2 ^ (64 - s) < 2 ^ s) ∧ h * 2 ^ s + l / 2 ^ (64 - s) < y * 2 ^ s ∧ (h * 2 ^ s + l / 2 ^ (64 - s)) * 18446744073709551616 + l * 2 ^ s % 18446744073709551616 = (h * 18446744073709551616 + l) * 2 ^ s := by
  have p0 : (0 : Int) < 2 ^ s := Int.pow_pos (by omega)
  have p1 : (0 : Int) < 2 ^ (64 - s) := Int.pow_pos (by omega)
  have p2 : (2 : Int) ^ (64 - s) * 2 ^ s = 18446744073709551616 := by rw [← Int.pow_add, show 64 - s + s = 64 by omega]; rfl
  have p3 : (2 : Int) ^ s * 2 ^ (64 - s) = 18446744073709551616 := by rw [Int.mul_comm]; exact p2
  generalize (2 : Int) ^ s = S at *
  generalize (2 : Int) ^ (64 - s) = T at *
  have e1 := Int.emod_add_mul_ediv l T
  have e2 := Int.emod_nonneg l (by omega : T ≠ 0)
  have e3 := Int.emod_lt_of_pos l p1
  have e4 : 0 ≤ l / T := Int.ediv_nonneg l0 (by omega)
  have e5 : l / T < S := (Int.ediv_lt_iff_lt_mul p1).2 (by rw [p3]; omega)
  have m1 : h * S ≤ (y - 1) * S := Int.mul_le_mul_of_nonneg_right (by omega) (by omega)
  have m2 : (y - 1) * S = y * S - S := by rw [Int.sub_mul]; omega
  have m3 : 0 ≤ h * S := Int.mul_nonneg (by omega) (by omega)
  have m4 : 0 ≤ l % T * S := Int.mul_nonneg e2 (by omega)
  have m5 : l % T * S < T * S := Int.mul_lt_mul_of_pos_right e3 p0
  have m6 : l * S = l % T * S + l / T * (T * S) := by
    have : l * S = (l % T + T * (l / T)) * S := by rw [e1]
    rw [this, Int.add_mul, Int.mul_comm T (l / T), Int.mul_assoc]
  rw [p2] at m5 m6
  have m7 : l * S % 18446744073709551616 = l % T * S := by rw [m6]; omega
  refine ⟨⟨m3, by omega⟩, ⟨e4, e5⟩, by omega, ?_⟩
  rw [m7, Int.add_mul, Int.add_mul, m6, Int.mul_assoc h S, Int.mul_comm S, ← Int.mul_assoc]
  omega

theorem quot_math {U L Y N y q1 q0 : Int} {s : Nat} (hY : Y = y * 2 ^ s) (y0 : 0 < y) (hN : U * 18446744073709551616 + L = N * 2 ^ s) (h1 : q1 = (U * 4294967296 + L / 4294967296) / Y) (h0 : q0 = ((U * 4294967296 + L / 4294967296 - q1 * Y) * 4294967296 + L % 4294967296) / Y) :
    q1 * 4294967296 + q0 = N / y ∧ ((U * 4294967296 + L / 4294967296 - q1 * Y) * 4294967296 + L % 4294967296 - q0 * Y) / 2 ^ s = N % y ∧
    (0 ≤ U * 4294967296 + L / 4294967296 - q1 * Y ∧ U * 4294967296 + L / 4294967296 - q1 * Y < Y) ∧ (0 ≤ (U * 4294967296 + L / 4294967296 - q1 * Y) * 4294967296 + L % 4294967296 - q0 * Y ∧ (U * 4294967296 + L / 4294967296 - q1 * Y) * 4294967296 + L % 4294967296 - q0 * Y < Y) := by
  have p0 : (0 : Int) < 2 ^ s := Int.pow_pos (by omega)
  generalize (2 : Int) ^ s = S at *
  have hY0 : 0 < Y := by rw [hY]; exact Int.mul_pos y0 p0
  have a1 := Int.emod_add_mul_ediv (U * 4294967296 + L / 4294967296) Y
  have a2 := Int.emod_nonneg (U * 4294967296 + L / 4294967296) (by omega : Y ≠ 0)
  have a3 := Int.emod_lt_of_pos (U * 4294967296 + L / 4294967296) hY0
  rw [← h1, Int.mul_comm Y q1] at a1
  have b1 := Int.emod_add_mul_ediv ((U * 4294967296 + L / 4294967296 - q1 * Y) * 4294967296 + L % 4294967296) Y
  have b2 := Int.emod_nonneg ((U * 4294967296 + L / 4294967296 - q1 * Y) * 4294967296 + L % 4294967296) (by omega : Y ≠ 0)
  have b3 := Int.emod_lt_of_pos ((U * 4294967296 + L / 4294967296 - q1 * Y) * 4294967296 + L % 4294967296) hY0
  rw [← h0, Int.mul_comm Y q0] at b1
  clear h0 h1
  have c1 : (q1 * 4294967296 + q0) * Y = q1 * Y * 4294967296 + q0 * Y := by rw [Int.add_mul, Int.mul_assoc, Int.mul_comm 4294967296 Y, ← Int.mul_assoc]
  have c2 : (q1 * 4294967296 + q0) * y * S = (q1 * 4294967296 + q0) * Y := by rw [hY, Int.mul_assoc]
  have c3 : (N - (q1 * 4294967296 + q0) * y) * S = N * S - (q1 * 4294967296 + q0) * y * S := Int.sub_mul _ _ _
  generalize hR : (U * 4294967296 + L / 4294967296 - q1 * Y) * 4294967296 + L % 4294967296 - q0 * Y = R at *
  have c4 : R = (N - (q1 * 4294967296 + q0) * y) * S := by
    rw [c3, c2, c1, ← hN, ← hR]
    generalize q1 * Y = x at *
    generalize q0 * Y = z at *
    omega
  have r0 : 0 ≤ R := by omega
  have r1 : R < Y := by omega
  have d1 : 0 ≤ N - (q1 * 4294967296 + q0) * y := by
    rcases Int.lt_or_le (N - (q1 * 4294967296 + q0) * y) 0 with h | h
    · have : (N - (q1 * 4294967296 + q0) * y) * S < 0 := Int.mul_neg_of_neg_of_pos h p0
      omega
    · exact h
  have d2 : N - (q1 * 4294967296 + q0) * y < y := by
    rcases Int.lt_or_le (N - (q1 * 4294967296 + q0) * y) y with h | h
    · exact h
    · have : y * S ≤ (N - (q1 * 4294967296 + q0) * y) * S := Int.mul_le_mul_of_nonneg_right h (by omega)
      omega
  have e1 : N / y = q1 * 4294967296 + q0 := by
    rw [Int.ediv_eq_iff_of_pos y0]
    have : (q1 * 4294967296 + q0 + 1) * y = (q1 * 4294967296 + q0) * y + y := by rw [Int.add_mul _ 1]; omega
    constructor <;> omega
  refine ⟨e1.symm, ?_, ⟨by omega, by omega⟩, r0, r1⟩
  rw [c4, Int.mul_ediv_cancel _ (by omega), Int.emod_def, e1, Int.mul_comm y]
end Go.Proofs.Ytcghafdemklnnaa
