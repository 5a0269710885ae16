/- between and width of a place. -/
import Derived.Test.YtcghafdemklnnaaLow
namespace Go.Proofs.Ytcghafdemklnnaa
open Go.RowKit

set_option maxHeartbeats 400000 in
theorem between_any (i p l a b : Int) (w : World) (h1 : -2305843009213693952 ≤ l * a) (h2 : l * a ≤ 2305843009213693952) (h3 : -2305843009213693952 ≤ p * b) (h4 : p * b ≤ 2305843009213693952) :
    Calls Try.prog 89 #[.agg #[.int .i64 i, .int .i64 p, .int .i64 l], .int .i64 a, .int .i64 b] w fun e w' => e = .returned (.int .i64 (l * a + p * b)) ∧ Below w.heap.size w w' := by
  go_enter Try.func89, Try.ntmps89
  go_wp2
  go_ret
  exact ⟨rfl, (Below.refl _ _).alloc (Nat.le_refl _) _⟩

set_option maxHeartbeats 400000 in
theorem width_any (i p l : Int) (w : World) (h1 : -2305843009213693952 ≤ p) (h2 : p ≤ 2305843009213693952) (h3 : -2305843009213693952 ≤ l) (h4 : l ≤ 2305843009213693952) :
    Calls Try.prog 90 #[.agg #[.int .i64 i, .int .i64 p, .int .i64 l]] w fun e w' => e = .returned (.int .i64 (p + l)) ∧ Below w.heap.size w w' := by
  go_enter Try.func90, Try.ntmps90
  go_wp2
  go_ret
  exact ⟨rfl, (Below.refl _ _).alloc (Nat.le_refl _) _⟩
end Go.Proofs.Ytcghafdemklnnaa
