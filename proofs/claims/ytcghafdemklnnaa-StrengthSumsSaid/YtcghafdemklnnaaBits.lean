/- The product of two words and the quotient of two words by one. -/
import Derived.Test.YtcghafdemklnnaaLow
import Derived.Shelf.Bits.Mul64
import Derived.Test.YtcghafdemklnnaaTail
import Derived.Deep.DeepCutAuto
namespace Go.Proofs.Ytcghafdemklnnaa
open Go.RowKit Go.Shelf Go.Sort

set_option maxHeartbeats 2000000 in
theorem Mul64_any (x y : Nat) (hx : x < 18446744073709551616) (hy : y < 18446744073709551616) (w : World) :
    Calls Try.prog 92 #[.int .u64 x, .int .u64 y] w fun e w' => e = .returned (.tuple #[.int .u64 ((x * y / 18446744073709551616 : Nat) : Int), .int .u64 ((x * y % 18446744073709551616 : Nat) : Int)]) ∧ w' = w := by
  obtain ⟨bd, bt, bw, hhi⟩ := Lib.mul64_hi x y hx hy
  have ba := Lib.half_mul_le (a := x / 4294967296) (b := y / 4294967296) (by omega) (by omega)
  have bb := Lib.half_mul_le (a := x / 4294967296) (b := y % 4294967296) (by omega) (by omega)
  have bc := Lib.half_mul_le (a := x % 4294967296) (b := y / 4294967296) (by omega) (by omega)
  have ba' : x / 4294967296 * (y / 4294967296) < 18446744073709551616 := by omega
  have bb' : x / 4294967296 * (y % 4294967296) < 18446744073709551616 := by omega
  have bc' : x % 4294967296 * (y / 4294967296) < 18446744073709551616 := by omega
  have bh1 : x / 4294967296 * (y / 4294967296) + (x / 4294967296 * (y % 4294967296) + x % 4294967296 * (y % 4294967296) / 4294967296) / 4294967296 < 18446744073709551616 := by omega
  have bh : x / 4294967296 * (y / 4294967296) + (x / 4294967296 * (y % 4294967296) + x % 4294967296 * (y % 4294967296) / 4294967296) / 4294967296 + ((x / 4294967296 * (y % 4294967296) + x % 4294967296 * (y % 4294967296) / 4294967296) % 4294967296 + x % 4294967296 * (y / 4294967296)) / 4294967296 < 18446744073709551616 := by omega
  go_enter Try.func92, Try.ntmps92
  go_wp2
  simp only [Mul64.maskN x hx, Mul64.maskN y hy, Mul64.divN, Mul64.mulN, Mul64.addN, Mul64.wrapN _ bd, Mul64.wrapN _ bb', Mul64.wrapN _ bt, Mul64.maskN _ bt, Mul64.wrapN _ bc', Mul64.wrapN _ bw, Mul64.wrapN _ ba', Mul64.wrapN _ bh1, Mul64.wrapN _ bh, Mul64.wrapM (x * y)]
  rw [hhi]
  go_ret2
  exact ⟨rfl, rfl⟩

set_option maxHeartbeats 2000000 in
theorem Div64_small (l y : Int) (w : World) (h1 : 0 ≤ l) (h2 : l ≤ 18446744073709551615) (h3 : 0 < y) (h4 : y ≤ 18446744073709551615) :
    Calls Try.prog 93 #[.int .u64 0, .int .u64 l, .int .u64 y] w fun e w' => e = .returned (.tuple #[.int .u64 (l / y), .int .u64 (l % y)]) ∧ Below w.heap.size w w' := by
  have e1 : l.tdiv y = l / y := Int.tdiv_eq_ediv_of_nonneg h1
  have e2 : l.tmod y = l % y := Int.tmod_eq_emod_of_nonneg h1
  have b1 : 0 ≤ l / y := Int.ediv_nonneg h1 (by omega)
  have b2 : l / y ≤ l := Int.ediv_le_self _ h1
  have b3 := Int.emod_nonneg l (by omega : y ≠ 0)
  have b4 := Int.emod_lt_of_pos l h3
  go_enter Try.func93, Try.ntmps93
  go_upto_region 6 with fail
  have hw1 : IntKind.u64.wrap (l.tdiv y) = l / y := by rw [e1]; exact IntWalk.u64_in _ (by omega)
  have hy0 : y ≠ 0 := by omega
  clear e1
  replace e2 := Lib.hid e2
  refine wp_region_quiet_below (by kernel_rfl) (by kernel_rfl) ?_
  repeat (quiet_step (fail))
  refine wpQuiet_nil ?_
  intro _ hw'
  obtain ⟨⟨dq, osq⟩, hw''⟩ := hw'
  subst hw''
  have hb3 := below_regrown w dq osq
  generalize grow (redrawn w dq) osq = W3 at *
  go_wp2
  go_ret2
  exact ⟨by rw [← e2.out]; rfl, hb3⟩

/-- what Div64 must leave for these -/
def DivIs (a b : Nat) (c q r : Int) (w : World) : Prop := ∀ W, Below w.heap.size w W → Calls Try.prog 93 #[.int .u64 ((a * b / 18446744073709551616 : Nat) : Int), .int .u64 ((a * b % 18446744073709551616 : Nat) : Int), .int .u64 c] W fun e w' => e = .returned (.tuple #[.int .u64 q, .int .u64 r]) ∧ Below W.heap.size W w'

set_option maxHeartbeats 2000000 in
theorem divide_of (a b : Nat) (c q r : Int) (w : World) (h2 : a ≤ 9223372036854775807) (h4 : b ≤ 9223372036854775807) (h5 : 0 < c) (h6 : c ≤ 9223372036854775807) (q1 : 0 ≤ q) (q2 : q ≤ 9223372036854775807) (r1 : 0 ≤ r) (r2 : r ≤ 9223372036854775807)
    (hd : Hid (DivIs a b c q r w)) :
    Calls Try.prog 82 #[.int .i64 a, .int .i64 b, .int .i64 c] w fun e w' => e = .returned (.tuple #[.int .i64 q, .int .i64 r]) ∧ Below w.heap.size w w' := by
  have hm := Lib.hid fun W => Mul64_any a b (by omega) (by omega) W
  unfold DivIs at hd
  have hc : IntKind.u64.wrap c = c := IntWalk.u64_in _ (by omega)
  have hq : IntKind.i64.wrap q = q := IntWalk.i64_in _ (by omega)
  have hr : IntKind.i64.wrap r = r := IntWalk.i64_in _ (by omega)
  generalize ((a * b / 18446744073709551616 : Nat) : Int) = p1 at hd hm
  generalize ((a * b % 18446744073709551616 : Nat) : Int) = p2 at hd hm
  go_enter Try.func82, Try.ntmps82
  go_wp2_with fail
  refine (hm.out _).mono ?_
  rintro e w1 ⟨rfl, rfl⟩
  go_wp2_with fail
  refine (hd.out _ (Below.refl _ _)).mono ?_
  rintro e w2 ⟨rfl, hb⟩
  go_wp2
  go_ret2
  exact ⟨rfl, hb⟩

set_option maxHeartbeats 2000000 in
theorem partDown_of (a b : Nat) (c q r : Int) (w : World) (h2 : a ≤ 9223372036854775807) (h4 : b ≤ 9223372036854775807) (h5 : 0 < c) (h6 : c ≤ 9223372036854775807) (q1 : 0 ≤ q) (q2 : q ≤ 9223372036854775807) (r1 : 0 ≤ r) (r2 : r ≤ 9223372036854775807)
    (hd : Hid (DivIs a b c q r w)) :
    Calls Try.prog 61 #[.int .i64 a, .int .i64 b, .int .i64 c] w fun e w' => e = .returned (.int .i64 q) ∧ Below w.heap.size w w' := by
  have hv := Lib.hid (divide_of a b c q r w h2 h4 h5 h6 q1 q2 r1 r2 hd)
  clear hd
  go_enter Try.func61, Try.ntmps61
  go_wp2_with fail
  refine hv.out.mono ?_
  rintro e w1 ⟨rfl, hb⟩
  go_wp2
  go_ret
  exact ⟨rfl, hb⟩

set_option maxHeartbeats 2000000 in
theorem partUp_of (a b : Nat) (c q r y : Int) (w : World) (h2 : a ≤ 9223372036854775807) (h4 : b ≤ 9223372036854775807) (h5 : 0 < c) (h6 : c ≤ 9223372036854775807) (q1 : 0 ≤ q) (q2 : q ≤ 9223372036854775806) (r1 : 0 ≤ r) (r2 : r ≤ 9223372036854775807)
    (hd : Hid (DivIs a b c q r w)) (hy : Hid (y = if r = 0 then q else q + 1)) :
    Calls Try.prog 62 #[.int .i64 a, .int .i64 b, .int .i64 c] w fun e w' => e = .returned (.int .i64 y) ∧ Below w.heap.size w w' := by
  have hv := Lib.hid (divide_of a b c q r w h2 h4 h5 h6 q1 (by omega) r1 r2 hd)
  clear hd
  have hy' := hy.out
  by_cases h0 : r = 0
  · rw [if_pos h0] at hy'
    subst h0
    subst hy'
    go_enter Try.func62, Try.ntmps62
    go_wp2_with fail
    refine hv.out.mono ?_
    rintro e w1 ⟨rfl, hb⟩
    go_wp2
    go_ret
    exact ⟨rfl, hb⟩
  · rw [if_neg h0] at hy'
    subst hy'
    have h0' : (r != 0) = true := by simpa using h0
    go_enter Try.func62, Try.ntmps62
    go_wp2_with fail
    refine hv.out.mono ?_
    rintro e w1 ⟨rfl, hb⟩
    go_wp2
    go_ret
    exact ⟨rfl, hb⟩

theorem divIs_small (a b : Nat) (c : Int) (w : World) (h : a * b < 18446744073709551616) (h3 : 0 < c) (h4 : c ≤ 9223372036854775807) : DivIs a b c (((a * b : Nat) : Int) / c) (((a * b : Nat) : Int) % c) w := by
  intro W hW
  rw [Nat.div_eq_of_lt h, Nat.mod_eq_of_lt h]
  exact Div64_small _ c W (by omega) (by omega) h3 (by omega)
end Go.Proofs.Ytcghafdemklnnaa
