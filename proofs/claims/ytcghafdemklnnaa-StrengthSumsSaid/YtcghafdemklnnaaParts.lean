/- Parts of products, as far as the quotient of two words is known. -/
import Derived.Test.YtcghafdemklnnaaBits
namespace Go.Proofs.Ytcghafdemklnnaa
open Go.RowKit

/-- the quotient of two words is right for products below m -/
def DivFor (m : Int) : Prop := ∀ (a b : Nat) (c : Int) (w : World), ((a * b : Nat) : Int) < m → 0 < c → c ≤ 9223372036854775807 → ((a * b : Nat) : Int) / c ≤ 9223372036854775807 → DivIs a b c (((a * b : Nat) : Int) / c) (((a * b : Nat) : Int) % c) w
theorem divFor_small : DivFor 18446744073709551616 := fun a b c w h h1 h2 _ => divIs_small a b c w (by omega) h1 h2

theorem partDown_any {m : Int} (hm : DivFor m) (a b c q : Int) (w : World) (a1 : 0 ≤ a) (a2 : a ≤ 9223372036854775807) (b1 : 0 ≤ b) (b2 : b ≤ 9223372036854775807) (c1 : 0 < c) (c2 : c ≤ 9223372036854775807) (hab : a * b < m) (hq : a * b / c = q) (hq' : q ≤ 9223372036854775807) :
    Calls Try.prog 61 #[.int .i64 a, .int .i64 b, .int .i64 c] w fun e w' => e = .returned (.int .i64 q) ∧ Below w.heap.size w w' := by
  obtain ⟨a, rfl⟩ := Int.eq_ofNat_of_zero_le a1
  obtain ⟨b, rfl⟩ := Int.eq_ofNat_of_zero_le b1
  rw [← Int.natCast_mul] at hab hq
  have h0 : 0 ≤ ((a * b : Nat) : Int) / c := Int.ediv_nonneg (by omega) (by omega)
  have h1 := Int.emod_nonneg ((a * b : Nat) : Int) (by omega : c ≠ 0)
  have h2 := Int.emod_lt_of_pos ((a * b : Nat) : Int) c1
  subst hq
  exact partDown_of a b c _ _ w (by omega) (by omega) c1 c2 h0 hq' h1 (by omega) (Lib.hid (hm a b c w hab c1 c2 hq'))

def upDiv (a c : Int) : Int := if a % c = 0 then a / c else a / c + 1
theorem partUp_any {m : Int} (hm : DivFor m) (a b c q : Int) (w : World) (a1 : 0 ≤ a) (a2 : a ≤ 9223372036854775807) (b1 : 0 ≤ b) (b2 : b ≤ 9223372036854775807) (c1 : 0 < c) (c2 : c ≤ 9223372036854775807) (hab : a * b < m) (hq : upDiv (a * b) c = q) (hq' : a * b / c ≤ 9223372036854775806) :
    Calls Try.prog 62 #[.int .i64 a, .int .i64 b, .int .i64 c] w fun e w' => e = .returned (.int .i64 q) ∧ Below w.heap.size w w' := by
  obtain ⟨a, rfl⟩ := Int.eq_ofNat_of_zero_le a1
  obtain ⟨b, rfl⟩ := Int.eq_ofNat_of_zero_le b1
  rw [← Int.natCast_mul] at hab hq hq'
  have h0 : 0 ≤ ((a * b : Nat) : Int) / c := Int.ediv_nonneg (by omega) (by omega)
  have h1 := Int.emod_nonneg ((a * b : Nat) : Int) (by omega : c ≠ 0)
  have h2 := Int.emod_lt_of_pos ((a * b : Nat) : Int) c1
  subst hq
  exact partUp_of a b c _ _ _ w (by omega) (by omega) c1 c2 h0 hq' h1 (by omega) (Lib.hid (hm a b c w hab c1 c2 (by omega))) (Lib.hid rfl)
theorem upDiv_bd {a c : Int} : a / c ≤ upDiv a c ∧ upDiv a c ≤ a / c + 1 := by
  unfold upDiv
  split <;> omega
end Go.Proofs.Ytcghafdemklnnaa
