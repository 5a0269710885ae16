/- How many bits a word takes: Len64 and LeadingZeros64. -/
import Derived.Test.YtcghafdemklnnaaLow
import Derived.Lib.BitFns
import Derived.Lib.Walk
import Derived.Lib.Strings
import Derived.Lib.Slices
import Derived.Lib.Small
import Derived.Lib.ItoaNum
namespace Go.Proofs.Ytcghafdemklnnaa
open Go.RowKit

theorem len_way (k : Nat) {x b : Int} (h0 : 0 ≤ x) (h1 : x ≤ 18446744073709551615) (hb : b = x / 2 ^ k) (hk : k = 0 ∨ 2 ^ k ≤ x.toNat) (b0 : 0 ≤ b) (b1 : b ≤ 255) : (k : Int) + Lib.len8 b = (Lib.bitLen x.toNat : Int) := by
  rw [Lib.len8_of b b0 b1]
  obtain ⟨n, rfl⟩ := Int.eq_ofNat_of_zero_le h0
  simp only [Int.toNat_natCast] at hk ⊢
  have e : b.toNat = n / 2 ^ k := by
    rw [hb, show ((2 : Int) ^ k) = ((2 ^ k : Nat) : Int) by simp, ← Int.natCast_ediv]
    exact Int.toNat_natCast _
  rw [e]
  rcases hk with rfl | hk
  · simp
  · rw [Lib.bitLen_shift k n hk (by omega)]
    omega

theorem len8_get (i : Int) (h : i.toNat < Lib.len8tab.size) : ((Lib.len8tab[i.toNat]'h).toNat : Int) = Lib.len8 i := by
  simp [Lib.len8, h]
theorem wrap64_small {a : Int} (h0 : 0 ≤ a) (h1 : a ≤ 64) : wrap64 a = a := by unfold wrap64; omega

theorem len_way' (k : Nat) {x b : Int} (h0 : 0 ≤ x) (h1 : x ≤ 18446744073709551615) (hb : b = x / 2 ^ k) (hk : k = 0 ∨ 2 ^ k ≤ x.toNat) (b0 : 0 ≤ b) (b1 : b ≤ 255) (k1 : k ≤ 56) : wrap64 ((k : Int) + wrap64 (Lib.len8 b)) = (Lib.bitLen x.toNat : Int) := by
  have l := Lib.bitLen_le8' b b0 b1
  have e := Lib.len8_of b b0 b1
  rw [wrap64_small (a := Lib.len8 b) (by omega) (by omega), wrap64_small (by omega) (by omega)]
  exact len_way k h0 h1 hb hk b0 b1

set_option maxHeartbeats 4000000 in
set_option maxRecDepth 100000 in
theorem Len64_any (x : Int) (w : World) (h0 : 0 ≤ x) (h1 : x ≤ 18446744073709551615) :
    Calls Try.prog 98 #[.int .u64 x] w fun e w' => e = .returned (.int .i64 (Lib.bitLen x.toNat)) ∧ w' = w := by
  have hsz : ((Lib.len8tab.size : Nat) : Int) = 256 := by rw [Lib.len8tab_size]; rfl
  go_enter Try.func98, Try.ntmps98
  go_wp2
  all_goals (go_ret; refine ⟨ret_int ?_, rfl⟩)
  all_goals simp only [len8_get]
  all_goals first
    | exact len_way' 56 (b := x / 4294967296 / 65536 / 256) h0 h1 (by omega) (by omega) (by omega) (by omega) (by omega)
    | exact len_way' 48 (b := x / 4294967296 / 65536) h0 h1 (by omega) (by omega) (by omega) (by omega) (by omega)
    | exact len_way' 40 (b := x / 4294967296 / 256) h0 h1 (by omega) (by omega) (by omega) (by omega) (by omega)
    | exact len_way' 32 (b := x / 4294967296) h0 h1 (by omega) (by omega) (by omega) (by omega) (by omega)
    | exact len_way' 24 (b := x / 65536 / 256) h0 h1 (by omega) (by omega) (by omega) (by omega) (by omega)
    | exact len_way' 16 (b := x / 65536) h0 h1 (by omega) (by omega) (by omega) (by omega) (by omega)
    | exact len_way' 8 (b := x / 256) h0 h1 (by omega) (by omega) (by omega) (by omega) (by omega)
    | exact (congrArg wrap64 (by rw [Int.natCast_zero, Int.zero_add])).trans (len_way' 0 (b := x) h0 h1 (by omega) (.inl rfl) (by omega) (by omega) (by omega))

/-- so many zeros lead: with the word brought to the top -/
theorem lead_any (x : Int) (w : World) (h0 : 0 < x) (h1 : x ≤ 18446744073709551615) :
    Calls Try.prog 97 #[.int .u64 x] w fun e w' => ∃ s : Nat, e = .returned (.int .i64 s) ∧ (s ≤ 63 ∧ 9223372036854775808 ≤ x * 2 ^ s ∧ x * 2 ^ s ≤ 18446744073709551615) ∧ w' = w := by
  obtain ⟨n, rfl⟩ := Int.eq_ofNat_of_zero_le (Int.le_of_lt h0)
  have hn : n ≠ 0 := by omega
  obtain ⟨a1, a2, a3⟩ := Lib.bitLenAux_bounds 64 n (by omega) hn
  change 1 ≤ Lib.bitLen n at a1
  change 2 ^ (Lib.bitLen n - 1) ≤ n at a2
  change n < 2 ^ Lib.bitLen n at a3
  have a4 : Lib.bitLen n ≤ 64 := Lib.bitLen_le n 64 (Nat.le_refl _) (by omega)
  have hl := Lib.hid fun W => Len64_any (n : Int) W (by omega) h1
  rw [Int.toNat_natCast] at hl
  have hfin : ∃ s : Nat, (64 - Lib.bitLen n : Int) = s ∧ (s ≤ 63 ∧ 9223372036854775808 ≤ (n : Int) * 2 ^ s ∧ (n : Int) * 2 ^ s ≤ 18446744073709551615) := by
    refine ⟨64 - Lib.bitLen n, by omega, by omega, ?_⟩
    have p1 : 2 ^ (Lib.bitLen n - 1) * 2 ^ (64 - Lib.bitLen n) = 9223372036854775808 := by
      rw [← Nat.pow_add, show Lib.bitLen n - 1 + (64 - Lib.bitLen n) = 63 by omega]
    have p2 : 2 ^ Lib.bitLen n * 2 ^ (64 - Lib.bitLen n) = 18446744073709551616 := by
      rw [← Nat.pow_add, show Lib.bitLen n + (64 - Lib.bitLen n) = 64 by omega]
    have q1 : 2 ^ (Lib.bitLen n - 1) * 2 ^ (64 - Lib.bitLen n) ≤ n * 2 ^ (64 - Lib.bitLen n) := Nat.mul_le_mul_right _ a2
    have q2 : n * 2 ^ (64 - Lib.bitLen n) < 2 ^ Lib.bitLen n * 2 ^ (64 - Lib.bitLen n) := Nat.mul_lt_mul_of_pos_right a3 (Nat.two_pow_pos _)
    have e : (n : Int) * 2 ^ (64 - Lib.bitLen n) = ((n * 2 ^ (64 - Lib.bitLen n) : Nat) : Int) := by simp
    rw [e]
    omega
  obtain ⟨s, hs, hs'⟩ := hfin
  replace hs := Lib.hid hs
  replace hs' := Lib.hid hs'
  clear a1 a2 a3 hn
  generalize Lib.bitLen n = L at *
  go_enter Try.func97, Try.ntmps97
  go_wp2_with fail
  refine (hl.out _).mono ?_
  rintro e w1 ⟨rfl, rfl⟩
  go_wp2
  go_ret
  exact ⟨s, ret_int hs.out, hs'.out, rfl⟩
end Go.Proofs.Ytcghafdemklnnaa
