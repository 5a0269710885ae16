/- Dust, minute by minute, over whole numbers. -/
import Derived.Test.YtdadpfgcjffclaaModel
namespace Go.Proofs.Ytdadpfgcjffclaa
open Go.RowKit

theorem upQ_mono {a a' b : Int} (hb : 0 < b) (h : a ≤ a') : upQ a b ≤ upQ a' b := Int.ediv_le_ediv hb (by omega)

/-- the dust a minute later -/
def laterM (m d c : Int) : Int := upQ ((10000 - d) * c) 10000 + m
theorem later_mono {m m' d d' c c' : Int} (hm : m ≤ m') (hd : d' ≤ d) (hd' : d ≤ 10000) (hc : c ≤ c') (h0 : 0 ≤ c) : laterM m d c ≤ laterM m' d' c' := by
  have h1 : (10000 - d) * c ≤ (10000 - d') * c' := Int.mul_le_mul (by omega) hc h0 (by omega)
  have h2 := upQ_mono (b := 10000) (by omega) h1
  unfold laterM
  omega
theorem later_bd {m d c : Int} (hm : 0 ≤ m) (d0 : 0 ≤ d) (d1 : d ≤ 10000) (hc : 0 ≤ c) : 0 ≤ laterM m d c ∧ laterM m d c ≤ c + m ∧ 0 ≤ (10000 - d) * c ∧ (10000 - d) * c ≤ 10000 * c := by
  have h1 : (10000 - d) * c ≤ 10000 * c := Int.mul_le_mul_of_nonneg_right (by omega) hc
  have h2 : 0 ≤ (10000 - d) * c := Int.mul_nonneg (by omega) hc
  have h3 := upQ_bd (b := 10000) (by omega) h2
  have h4 : upQ ((10000 - d) * c) 10000 ≤ c := by
    unfold upQ
    omega
  unfold laterM
  omega

/-- the dust so many minutes later, if nothing is cut off -/
def iterM (m d : Int) : Nat → Int → Int
  | 0, c => c
  | n + 1, c => iterM m d n (laterM m d c)
theorem iter_succ {m d : Int} : ∀ (n : Nat) (c : Int), iterM m d (n + 1) c = laterM m d (iterM m d n c)
  | 0, _ => rfl
  | n + 1, c => by rw [iterM, iter_succ n (laterM m d c)]; rfl
theorem iter_nonneg {m d : Int} (hm : 0 ≤ m) (d0 : 0 ≤ d) (d1 : d ≤ 10000) : ∀ (n : Nat) {c : Int}, 0 ≤ c → 0 ≤ iterM m d n c
  | 0, _, h => h
  | n + 1, _, h => iter_nonneg hm d0 d1 n (later_bd hm d0 d1 h).1
theorem iter_mono {m m' d d' : Int} (m0 : 0 ≤ m) (hm : m ≤ m') (d0 : 0 ≤ d) (hd : d' ≤ d) (hd' : d ≤ 10000) : ∀ (n : Nat) {c c' : Int}, 0 ≤ c → c ≤ c' → iterM m d n c ≤ iterM m' d' n c'
  | 0, _, _, _, h => h
  | n + 1, _, _, h0, h => iter_mono m0 hm d0 hd hd' n (later_bd m0 d0 hd' h0).1 (later_mono hm hd hd' h h0)
/-- what does not rise once never rises -/
theorem iter_still {m d : Int} (m0 : 0 ≤ m) (d0 : 0 ≤ d) (d1 : d ≤ 10000) {c : Int} (h0 : 0 ≤ c) (h : laterM m d c ≤ c) : ∀ n, iterM m d n c ≤ c
  | 0 => Int.le_refl _
  | n + 1 => by
    have := iter_mono m0 (Int.le_refl m) d0 (Int.le_refl d) d1 n (later_bd m0 d0 d1 h0).1 h
    exact Int.le_trans this (iter_still m0 d0 d1 h0 h n)
theorem iter_add {m d : Int} : ∀ (i j : Nat) (c : Int), iterM m d (i + j) c = iterM m d j (iterM m d i c)
  | 0, j, c => by simp [iterM]
  | i + 1, j, c => by rw [show i + 1 + j = (i + j) + 1 by omega, iterM, iter_add i j]; rfl

/-- the dust so many minutes later, as it is told -/
def dustR (m d : Int) : Nat → Int → Int
  | 0, c => c
  | n + 1, c => if 1073741824 < laterM m d c then 1073741824 else dustR m d n (laterM m d c)
theorem dustR_le {m d : Int} : ∀ (n : Nat) {c : Int}, c ≤ 1073741824 → dustR m d n c ≤ 1073741824
  | 0, _, h => h
  | n + 1, _, _ => by
    unfold dustR
    split
    · omega
    · exact dustR_le n (by omega)
theorem dustR_nonneg {m d : Int} (hm : 0 ≤ m) (d0 : 0 ≤ d) (d1 : d ≤ 10000) : ∀ (n : Nat) {c : Int}, 0 ≤ c → 0 ≤ dustR m d n c
  | 0, _, h => h
  | n + 1, _, h => by
    unfold dustR
    split
    · omega
    · exact dustR_nonneg hm d0 d1 n (later_bd hm d0 d1 h).1
/-- told is the true one, or what is at most told -/
theorem dustR_is {m d : Int} : ∀ (n : Nat) (c : Int), (dustR m d n c = iterM m d n c ∧ ∀ i, 0 < i → i ≤ n → iterM m d i c ≤ 1073741824) ∨ (dustR m d n c = 1073741824 ∧ ∃ i, i ≤ n ∧ 1073741824 < iterM m d i c)
  | 0, c => .inl ⟨rfl, fun i h1 h2 => by omega⟩
  | n + 1, c => by
    unfold dustR
    split
    · rename_i h
      exact .inr ⟨rfl, 1, by omega, h⟩
    · rename_i h
      rcases dustR_is n (laterM m d c) with ⟨h1, h2⟩ | ⟨h1, i, h2, h3⟩
      · refine .inl ⟨h1, fun i h3 h4 => ?_⟩
        obtain ⟨j, rfl⟩ : ∃ j, i = j + 1 := ⟨i - 1, by omega⟩
        rcases Nat.eq_zero_or_pos j with rfl | hj
        · simp only [iterM]; omega
        · exact h2 j hj (by omega)
      · exact .inr ⟨h1, i + 1, by omega, h3⟩
theorem dustR_mono {m m' d d' : Int} (m0 : 0 ≤ m) (hm : m ≤ m') (d0 : 0 ≤ d) (hd : d' ≤ d) (hd' : d ≤ 10000) : ∀ (n : Nat) {c c' : Int}, 0 ≤ c → c ≤ c' → c' ≤ 1073741824 → dustR m d n c ≤ dustR m' d' n c'
  | 0, _, _, _, h, _ => h
  | n + 1, c, c', h0, h, h1 => by
    have hl := later_mono hm hd hd' h h0
    unfold dustR
    by_cases k2 : 1073741824 < laterM m' d' c'
    · rw [if_pos k2]
      split
      · omega
      · exact dustR_le n (by omega)
    · rw [if_neg k2, if_neg (by omega)]
      exact dustR_mono m0 hm d0 hd hd' n (later_bd m0 d0 hd' h0).1 hl (by omega)
theorem dustR_succ {m d : Int} : ∀ (n : Nat) (c : Int), (dustR m d (n + 1) c = min (laterM m d (dustR m d n c)) 1073741824 ∧ ∀ i, 0 < i → i ≤ n → iterM m d i c ≤ 1073741824) ∨ (dustR m d (n + 1) c = 1073741824 ∧ dustR m d n c = 1073741824)
  | 0, c => by
    refine .inl ⟨?_, fun i h1 h2 => by omega⟩
    simp only [dustR]
    split <;> omega
  | n + 1, c => by
    by_cases h : 1073741824 < laterM m d c
    · refine .inr ⟨?_, ?_⟩ <;> (unfold dustR; rw [if_pos h])
    · have e1 : dustR m d (n + 1 + 1) c = dustR m d (n + 1) (laterM m d c) := by rw [dustR, if_neg h]
      have e2 : dustR m d (n + 1) c = dustR m d n (laterM m d c) := by rw [dustR, if_neg h]
      rw [e1, e2]
      rcases dustR_succ n (laterM m d c) with ⟨h1, h2⟩ | h1
      · refine .inl ⟨h1, fun i h3 h4 => ?_⟩
        obtain ⟨j, rfl⟩ : ∃ j, i = j + 1 := ⟨i - 1, by omega⟩
        rcases Nat.eq_zero_or_pos j with rfl | hj
        · simp only [iterM]; omega
        · exact h2 j hj (by omega)
      · exact .inr h1
/-- dust that becomes no more from one minute to the next never does again -/
theorem dust_still {m d c : Int} (m0 : 0 ≤ m) (d0 : 0 ≤ d) (d1 : d ≤ 10000) (c0 : 0 ≤ c) (c1 : c ≤ 1073741824) (n : Nat) (h : dustR m d (n + 1) c ≤ dustR m d n c) : dustR m d (n + 2) c ≤ dustR m d (n + 1) c := by
  have b0 := dustR_le (m := m) (d := d) n c1
  have b1 := dustR_le (m := m) (d := d) (n + 1) c1
  have b2 := dustR_le (m := m) (d := d) (n + 2) c1
  have n1 := dustR_nonneg (m := m) (d := d) m0 d0 d1 (n + 1) c0
  have e2 : dustR m d (n + 1 + 1) c = dustR m d (n + 2) c := rfl
  rcases dustR_succ (m := m) (d := d) (n + 1) c with ⟨h1, _⟩ | ⟨h1, h2⟩
  · rcases dustR_succ (m := m) (d := d) n c with ⟨k1, _⟩ | ⟨k1, k2⟩
    · have := later_mono (Int.le_refl m) (Int.le_refl d) d1 h n1
      omega
    · omega
  · omega

def MillOk (f m d l : Int) : Prop := (0 ≤ f ∧ f ≤ 1073741824) ∧ (0 ≤ m ∧ m ≤ 1073741824) ∧ (0 ≤ l ∧ l ≤ 1073741824) ∧ 0 ≤ d ∧ d ≤ 10000
instance (f m d l : Int) : Decidable (MillOk f m d l) := by unfold MillOk; infer_instance
/-- the dust that is told, or why there is none -/
def DustIs (f m d l n a k : Int) : Prop :=
  (¬ MillOk f m d l ∧ a = 0 ∧ k = 1) ∨ (MillOk f m d l ∧ ((¬ (0 ≤ n ∧ n ≤ 65536) ∧ a = 0 ∧ k = 2) ∨ ((0 ≤ n ∧ n ≤ 65536) ∧ a = dustR m d n.toNat f ∧ k = 0)))
theorem DustIs.uniq {f m d l n a k a' k' : Int} (h : DustIs f m d l n a k) (h' : DustIs f m d l n a' k') : a' = a ∧ k' = k := by
  rcases h with ⟨h1, h2, h3⟩ | ⟨h1, ⟨h4, h2, h3⟩ | ⟨h4, h2, h3⟩⟩ <;> rcases h' with ⟨g1, g2, g3⟩ | ⟨g1, ⟨g4, g2, g3⟩ | ⟨g4, g2, g3⟩⟩ <;> first | contradiction | (exact ⟨by rw [g2, h2], by rw [g3, h3]⟩)
/-- when it harms, or that it never does -/
def Harms (f m d l n k : Int) : Prop := (k = 4 ∧ n = 0 ∧ ∀ i, iterM m d i f ≤ l) ∨ (k = 0 ∧ 0 ≤ n ∧ l < iterM m d n.toNat f ∧ ∀ i, i < n.toNat → iterM m d i f ≤ l)
def HarmIs (f m d l n k : Int) : Prop := (¬ MillOk f m d l ∧ n = 0 ∧ k = 1) ∨ (MillOk f m d l ∧ Harms f m d l n k)
theorem HarmIs.uniq {f m d l n k n' k' : Int} (h : HarmIs f m d l n k) (h' : HarmIs f m d l n' k') : n' = n ∧ k' = k := by
  rcases h with ⟨h1, h2, h3⟩ | ⟨h1, ⟨h4, h2, h3⟩ | ⟨h4, h2, h3, h5⟩⟩ <;> rcases h' with ⟨g1, g2, g3⟩ | ⟨g1, ⟨g4, g2, g3⟩ | ⟨g4, g2, g3, g5⟩⟩ <;> first
    | contradiction
    | (exact ⟨by omega, by omega⟩)
    | (exfalso; have := h3 n'.toNat; omega)
    | (exfalso; have := g3 n.toNat; omega)
    | skip
  rcases Int.lt_trichotomy n n' with e | e | e
  · have := g5 n.toNat (by omega); omega
  · exact ⟨e.symm, by omega⟩
  · have := h5 n'.toNat (by omega); omega
theorem iter_steady {m : Int} : ∀ (n : Nat) (c : Int), iterM m 0 n c = c + n * m
  | 0, c => by simp [iterM]
  | n + 1, c => by
    rw [iterM, iter_steady n]
    have : laterM m 0 c = c + m := by unfold laterM upQ; omega
    have e : ((n + 1 : Nat) : Int) * m = n * m + m := by rw [Int.natCast_add, Int.add_mul]; simp
    omega
/-- a steady rise -/
theorem harm_steady {f m l : Int} (m0 : 0 < m) (h : f ≤ l) : Harms f m 0 l ((l - f) / m + 1) 0 := by
  have e0 : 0 ≤ (l - f) / m := Int.ediv_nonneg (by omega) (by omega)
  refine .inr ⟨rfl, by omega, ?_, fun i hi => ?_⟩
  · rw [iter_steady]
    have e1 := Int.lt_ediv_add_one_mul_self (l - f) m0
    have e2 : (((l - f) / m + 1).toNat : Int) = (l - f) / m + 1 := by omega
    rw [e2]
    omega
  · rw [iter_steady]
    have e1 := Int.ediv_mul_le (l - f) (show m ≠ 0 by omega)
    have e2 : (i : Int) * m ≤ (l - f) / m * m := Int.mul_le_mul_of_nonneg_right (by omega) (by omega)
    omega
theorem harm_still {f m d l : Int} (m0 : 0 ≤ m) (d0 : 0 ≤ d) (d1 : d ≤ 10000) (f0 : 0 ≤ f) (j : Nat) (hl : ∀ i, i ≤ j → iterM m d i f ≤ l) (h : laterM m d (iterM m d j f) ≤ iterM m d j f) : Harms f m d l 0 4 := by
  refine .inl ⟨rfl, rfl, fun i => ?_⟩
  rcases Nat.lt_or_ge j i with hi | hi
  · obtain ⟨t, rfl⟩ : ∃ t, i = j + t := ⟨i - j, by omega⟩
    rw [iter_add]
    have := iter_still m0 d0 d1 (iter_nonneg m0 d0 d1 j f0) h t
    have := hl j (Nat.le_refl _)
    omega
  · exact hl i hi
end Go.Proofs.Ytdadpfgcjffclaa
