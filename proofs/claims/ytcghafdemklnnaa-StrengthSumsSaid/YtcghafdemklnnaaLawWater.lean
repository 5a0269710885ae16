/- StrengthWater returns true, whatever the part, the target and the true numbers are. -/
import Derived.Test.YtcghafdemklnnaaAlive
namespace Go.Proofs.Ytcghafdemklnnaa
open Go.RowKit Go.Sort
attribute [local go_sem] Oper.calm Oper.calmAt Oper.calmUpon

set_option maxHeartbeats 1000000 in
set_option maxRecDepth 100000 in
theorem refWithin_any (lo hi a b : Int) (w : World) :
    Calls Try.prog 63 #[.agg #[.int .i64 lo, .int .i64 hi], .int .i64 a, .int .i64 b] w (SomeBool (lo ≤ hi ∧ a ≤ lo ∧ hi ≤ b) w) := by
  by_cases c1 : a ≤ lo
  · have c1' : decide (a ≤ lo) = true := by simpa using c1
    by_cases c2 : lo ≤ hi
    · have c2' : decide (lo ≤ hi) = true := by simpa using c2
      by_cases c3 : hi ≤ b
      · have c3' : decide (hi ≤ b) = true := by simpa using c3
        go_enter Try.func63, Try.ntmps63
        go_wp2
        go_ret
        exact SomeBool.yes ⟨c2, c1, c3⟩ ((Below.refl _ _).alloc (Nat.le_refl _) _)
      · have c3' : decide (hi ≤ b) = false := by simpa using c3
        go_enter Try.func63, Try.ntmps63
        go_wp2
        go_ret
        exact SomeBool.no (fun h => by omega) ((Below.refl _ _).alloc (Nat.le_refl _) _)
    · have c2' : decide (lo ≤ hi) = false := by simpa using c2
      go_enter Try.func63, Try.ntmps63
      go_wp2
      go_ret
      exact SomeBool.no (fun h => by omega) ((Below.refl _ _).alloc (Nat.le_refl _) _)
  · have c1' : decide (a ≤ lo) = false := by simpa using c1
    go_enter Try.func63, Try.ntmps63
    go_wp2
    go_ret
    exact SomeBool.no (fun h => by omega) ((Below.refl _ _).alloc (Nat.le_refl _) _)

set_option maxHeartbeats 2000000 in
set_option maxRecDepth 100000 in
theorem refPart_any (al ah sl sh : Int) (w : World) :
    Calls Try.prog 46 #[.agg #[.int .i64 al, .int .i64 ah, .int .i64 sl, .int .i64 sh]] w (SomeBool (PartOk ⟨al, ah, sl, sh⟩) w) := by
  have h1 := Lib.hid fun W => refWithin_any al ah 0 1099511627776 W
  have h2 := Lib.hid fun W => refWithin_any sl sh 0 10000 W
  go_enter Try.func46, Try.ntmps46
  go_wp2_with fail
  refine calls_world (fun W => Below w.heap.size w W ∧ Blk W w.heap.size 41 #[.int .i64 al, .int .i64 ah, .int .i64 sl, .int .i64 sh]) ⟨(Below.refl _ _).alloc (Nat.le_refl _) _, Blk.new _ _ _⟩ ?_
  rintro W0 ⟨hB0, b0⟩
  refine (h1.out _).mono ?_
  rintro e W1 ⟨r, rfl, hr, hb1⟩
  have hB1 := hB0.trans (hb1.mono hB0.size)
  replace b0 := b0.below hb1 b0.lt
  obtain ⟨x0, x1, x2, x3, _, _, _, _⟩ := b0.facts4
  cases r with
  | false =>
    replace hr := Lib.hid (fun h => Bool.noConfusion (hr.2 h) : ¬ _)
    go_wp2
    go_ret
    exact SomeBool.no (fun h => hr.out h.1) hB1
  | true =>
    replace hr := Lib.hid (hr.1 rfl)
    go_wp2_with fail
    refine (h2.out _).mono ?_
    rintro e W2 ⟨q, rfl, hq, hb2⟩
    have hB2 := hB1.trans (hb2.mono hB1.size)
    replace hq := Lib.hid hq
    go_wp2
    go_ret
    exact ⟨q, rfl, ⟨fun h => ⟨hr.out, hq.out.1 h⟩, fun h => hq.out.2 h.2⟩, hB2⟩

def innerV (lo hi r : Int) : Int := lo + r % (hi - lo + 1)
theorem innerV_bd {lo hi r : Int} (h : lo ≤ hi) : lo ≤ innerV lo hi r ∧ innerV lo hi r ≤ hi := by
  have h1 := Int.emod_nonneg r (show hi - lo + 1 ≠ 0 by omega)
  have h2 := Int.emod_lt_of_pos r (show 0 < hi - lo + 1 by omega)
  unfold innerV
  omega

set_option maxHeartbeats 2000000 in
set_option maxRecDepth 100000 in
theorem inner_any (lo hi r : Int) (w : World) (h : lo ≤ hi) (h1 : -1125899906842624 ≤ lo) (h2 : hi ≤ 1125899906842624) (r1 : 0 ≤ r) (r2 : r ≤ 4294967295) :
    Calls Try.prog 36 #[.agg #[.int .i64 lo, .int .i64 hi], .int .u32 r] w fun e w' => e = .returned (.int .i64 (innerV lo hi r)) ∧ Below w.heap.size w w' := by
  obtain ⟨v1, v2⟩ := @innerV_bd lo hi r h
  have hv : lo + r.tmod (hi - lo + 1) = innerV lo hi r := by rw [Int.tmod_eq_emod_of_nonneg r1]; rfl
  go_enter Try.func36, Try.ntmps36
  go_upto_region 1 with fail
  refine wp_world (fun W => Below w.heap.size w W ∧ Blk W w.heap.size 27 #[.int .i64 lo, .int .i64 hi]) ⟨(Below.refl _ _).alloc (Nat.le_refl _) _, Blk.new _ _ _⟩ ?_
  rintro W0 ⟨hB0, b0⟩
  obtain ⟨x0, x1, _, _⟩ := b0.facts2
  have x0' := fun d os => cell_regrown x0 d os
  have x1' := fun d os => cell_regrown x1 d os
  have hw1 : IntKind.i64.wrap r = r := IntWalk.i64_in _ (by omega)
  have hw2 : IntKind.i64.wrap (hi - lo) = hi - lo := IntWalk.i64_in _ (by omega)
  have hw3 : IntKind.i64.wrap (hi - lo + 1) = hi - lo + 1 := IntWalk.i64_in _ (by omega)
  have hw4 : IntKind.i64.wrap (lo + r.tmod (hi - lo + 1)) = innerV lo hi r := by rw [hv]; exact IntWalk.i64_in _ (by omega)
  have hz : hi - lo + 1 ≠ 0 := by omega
  clear hv
  refine wp_region_quiet_below (by kernel_rfl) (by kernel_rfl) ?_
  repeat (quiet_step (fail))
  refine wpQuiet_nil ?_
  intro _ hw'
  obtain ⟨⟨dq, osq⟩, hw''⟩ := hw'
  subst hw''
  have hb1 := below_regrown W0 dq osq
  have hB1 := hB0.trans (hb1.mono hB0.size)
  clear x0 x1 x0' x1' b0 hb1 hB0 hw1 hw2 hw3 hw4
  generalize grow (redrawn W0 dq) osq = W1 at *
  go_wp2
  go_ret
  exact ⟨rfl, hB1⟩

theorem water_math {al ah sl sh t a s w : Int} (hp : PartOk ⟨al, ah, sl, sh⟩) (ht : 1 ≤ t ∧ t ≤ 10000) (h : t ≤ sl) (ha : al ≤ a ∧ a ≤ ah) (hs : sl ≤ s ∧ s ≤ sh) (hw : w = min (al * (sl - t) / t) (1099511627776 - ah)) :
    0 ≤ w ∧ w ≤ 1099511627776 - ah ∧ t * (a + w) ≤ a * s ∧ (w = 1099511627776 - ah ∨ al * sl < t * (al + w + 1)) ∧ a * s ≤ 10995116277760000 ∧ t * (a + w) ≤ 10995116277760000 ∧ 0 ≤ t * (a + w) ∧ 0 ≤ al * sl ∧ al * sl ≤ 10995116277760000 ∧ 0 ≤ t * (al + w + 1) ∧ t * (al + w + 1) ≤ 10995116277770000 := by
  obtain ⟨⟨h1, h2, h3⟩, h4, h5, h6⟩ := hp
  dsimp only at h1 h2 h3 h4 h5 h6
  have e2 : 0 ≤ al * (sl - t) := Int.mul_nonneg h2 (by omega)
  have e4 : 0 ≤ al * (sl - t) / t := Int.ediv_nonneg e2 (by omega)
  have e5 : t * (al * (sl - t) / t) ≤ al * (sl - t) := by rw [Int.mul_comm]; exact Int.ediv_mul_le _ (by omega)
  have e6 : al * (sl - t) < t * (al * (sl - t) / t) + t := by
    have := Int.lt_ediv_add_one_mul_self (al * (sl - t)) (show 0 < t by omega)
    rw [Int.add_mul, Int.mul_comm (al * (sl - t) / t) t] at this
    omega
  have m1 : al * (s - t) ≤ a * (s - t) := Int.mul_le_mul_of_nonneg_right ha.1 (by omega)
  have m2 : al * (sl - t) ≤ al * (s - t) := Int.mul_le_mul_of_nonneg_left (by omega) h2
  have m3 : a * s ≤ 1099511627776 * 10000 := Int.mul_le_mul (by omega) (by omega) (by omega) (by omega)
  have m4 : al * sl ≤ 1099511627776 * 10000 := Int.mul_le_mul (by omega) (by omega) h5 (by omega)
  have m5 : 0 ≤ al * sl := Int.mul_nonneg h2 h5
  have w1 : 0 ≤ w := by omega
  have w2 : w ≤ al * (sl - t) / t := by omega
  have m6 : t * w ≤ t * (al * (sl - t) / t) := Int.mul_le_mul_of_nonneg_left w2 (by omega)
  have d1 : a * (s - t) = a * s - t * a := by rw [Int.mul_sub, Int.mul_comm t a]
  have d2 : t * (a + w) = t * a + t * w := Int.mul_add _ _ _
  have d3 : al * (sl - t) = al * sl - t * al := by rw [Int.mul_sub, Int.mul_comm t al]
  have d4 : t * (al + w + 1) = t * al + t * w + t := by rw [Int.mul_add, Int.mul_add, Int.mul_one]
  have m7 : 0 ≤ t * (a + w) := Int.mul_nonneg (by omega) (by omega)
  have m8 : 0 ≤ t * (al + w + 1) := Int.mul_nonneg (by omega) (by omega)
  have m9 : t * (al + w + 1) ≤ 10000 * (1099511627776 + 1) := Int.mul_le_mul ht.2 (by omega) (by omega) (by omega)
  refine ⟨w1, by omega, by omega, ?_, by omega, by omega, m7, m5, by omega, m8, by omega⟩
  rcases Int.lt_or_le (al * (sl - t) / t) (1099511627776 - ah) with hc | hc
  · right
    have : w = al * (sl - t) / t := by omega
    rw [this] at d4 ⊢
    omega
  · left; omega

set_option maxHeartbeats 8000000 in
set_option maxRecDepth 100000 in
theorem law_water (al ah sl sh t a s : Int) (w : World) (a1 : 0 ≤ a) (a2 : a ≤ 4294967295) (s1 : 0 ≤ s) (s2 : s ≤ 4294967295) :
    Calls Try.prog 12 #[.agg #[.int .i64 al, .int .i64 ah, .int .i64 sl, .int .i64 sh], .int .i64 t, .int .u32 a, .int .u32 s] w fun e w' => e = .returned (.bool true) ∧ Below w.heap.size w w' := by
  have hal := Lib.hid alive_any
  have hwa := Lib.hid fun W => Water_any al ah sl sh t W
  have hpa := Lib.hid fun W => refPart_any al ah sl sh W
  go_enter Try.func12, Try.ntmps12
  go_wp2_with fail
  refine calls_world (fun W => Below w.heap.size w W ∧ Blk W w.heap.size 41 #[.int .i64 al, .int .i64 ah, .int .i64 sl, .int .i64 sh]) ⟨(Below.refl _ _).alloc (Nat.le_refl _) _, Blk.new _ _ _⟩ ?_
  rintro W0 ⟨hB0, b0⟩
  refine (hwa.out _).mono ?_
  rintro e W1 ⟨v, k, rfl, hr, hb1⟩
  have hB1 := hB0.trans (hb1.mono hB0.size)
  replace b0 := b0.below hb1 b0.lt
  clear hb1 hB0 hwa
  obtain ⟨x0, x1, x2, x3, _, _, _, _⟩ := b0.facts4
  unfold WaterIs at hr
  rcases hr with ⟨-, rfl, rfl⟩ | ⟨hp, ⟨-, rfl, rfl⟩ | ⟨ht, ⟨hlt, rfl, rfl⟩ | ⟨hge, hv, rfl⟩⟩⟩
  · go_wp2_with fail
    refine (hal.out _).mono ?_
    rintro e W2 ⟨rfl, hb2⟩
    go_wp2
    go_ret
    exact ⟨rfl, hB1.trans (hb2.mono hB1.size)⟩
  · clear hp
    go_wp2_with fail
    refine (hal.out _).mono ?_
    rintro e W2 ⟨rfl, hb2⟩
    go_wp2
    go_ret
    exact ⟨rfl, hB1.trans (hb2.mono hB1.size)⟩
  · clear hp ht
    go_wp2_with fail
    refine (hal.out _).mono ?_
    rintro e W2 ⟨rfl, hb2⟩
    go_wp2
    go_ret
    exact ⟨rfl, hB1.trans (hb2.mono hB1.size)⟩
  · have i1 := @innerV_bd al ah a hp.1.1
    have i2 := @innerV_bd sl sh s hp.2.1
    obtain ⟨f1, f2, f3, f4, f5, f6, f7, f8, f9, f10, f11⟩ := water_math hp ht hge i1 i2 hv
    have hia := Lib.hid fun W => inner_any al ah a W hp.1.1 (by have := hp.1.2.1; dsimp only at this; omega) (by have := hp.1.2.2; dsimp only at this; omega) a1 a2
    have his := Lib.hid fun W => inner_any sl sh s W hp.2.1 (by have := hp.2.2.1; dsimp only at this; omega) (by have := hp.2.2.2; dsimp only at this; omega) s1 s2
    have hpc := Lib.hid hp
    obtain ⟨⟨h1, h2, h3⟩, h4, h5, h6⟩ := hp
    dsimp only at h1 h2 h3 h4 h5 h6
    clear hv
    generalize innerV al ah a = am at *
    generalize innerV sl sh s = st at *
    go_wp2_with fail
    refine (hpa.out _).mono ?_
    rintro e W2 ⟨r, rfl, hr, hb2⟩
    have hrt : r = true := hr.2 hpc.out
    subst hrt
    have hB2 := hB1.trans (hb2.mono hB1.size)
    replace b0 := b0.below hb2 b0.lt
    clear hr hb2 hB1 x0 x1 x2 x3 hpa hpc
    obtain ⟨x0, x1, x2, x3, _, _, _, _⟩ := b0.facts4
    have c1 : decide (v < 0) = false := by simpa using f1
    have c2 : decide (1099511627776 - ah < v) = false := by simpa using f2
    go_upto_region 6 with fail
    have x0' := fun d os => cell_regrown x0 d os
    have x1' := fun d os => cell_regrown x1 d os
    have x2' := fun d os => cell_regrown x2 d os
    have x3' := fun d os => cell_regrown x3 d os
    refine wp_region_quiet_below (by kernel_rfl) (by kernel_rfl) ?_
    repeat (quiet_step (first | (go_at_call_of 36 (Value.int IntKind.u32 a); exact quiet_call (fun W1 _ => hia.out W1)) | (go_at_call_of 36 (Value.int IntKind.u32 s); exact quiet_call (fun W1 _ => his.out W1))))
    refine wpQuiet_nil ?_
    intro _ hw'
    obtain ⟨⟨dq, osq⟩, hw''⟩ := hw'
    subst hw''
    have hb3 := below_regrown W2 dq osq
    have hB3 := hB2.trans (hb3.mono hB2.size)
    replace b0 := b0.below hb3 b0.lt
    clear x0 x1 x2 x3 x0' x1' x2' x3' hb3 hB2 hia his
    generalize grow (redrawn W2 dq) osq = W3 at *
    obtain ⟨x0, x1, x2, x3, _, _, _, _⟩ := b0.facts4
    have f12 : 0 ≤ am * st := by omega
    have w1 : IntKind.i64.wrap (am * st) = am * st := IntWalk.i64_in _ (by omega)
    have w2 : IntKind.i64.wrap (t * (am + v)) = t * (am + v) := IntWalk.i64_in _ (by omega)
    have w3 : IntKind.i64.wrap (al * sl) = al * sl := IntWalk.i64_in _ (by omega)
    have w4 : IntKind.i64.wrap (t * (al + v + 1)) = t * (al + v + 1) := IntWalk.i64_in _ (by omega)
    have c3 : decide (am * st < t * (am + v)) = false := by simpa using f3
    go_upto_region 9 with fail
    by_cases c4 : v = 1099511627776 - ah
    · have c4' : (v == 1099511627776 - ah) = true := by simpa using c4
      clear c4 f4
      go_wp2_with fail
      refine (hal.out _).mono ?_
      rintro e W4 ⟨rfl, hb4⟩
      go_wp2
      go_ret
      exact ⟨rfl, hB3.trans (hb4.mono hB3.size)⟩
    · have c4' : (v == 1099511627776 - ah) = false := by simpa using c4
      have c5 : decide (al * sl < t * (al + v + 1)) = true := by simpa using f4.resolve_left c4
      go_wp2_with fail
      refine (hal.out _).mono ?_
      rintro e W4 ⟨rfl, hb4⟩
      go_wp2
      go_ret
      exact ⟨rfl, hB3.trans (hb4.mono hB3.size)⟩
end Go.Proofs.Ytcghafdemklnnaa
