/- What the document's own package says of numbers, spans, mashes and vats. -/
import Derived.Test.YtjcadgklamhohaaVat
import Derived.Test.YtjcadgklamhohaaMash
namespace Go.Proofs.Ytjcadgklamhohaa
open Go.RowKit Go.Sort
attribute [local go_sem] Oper.calm Oper.calmAt Oper.calmUpon

theorem upQ_neg (a : Int) {b : Int} (hb : 0 < b) : -((-a) / b) = upQ a b := by
  have h1 := Int.ediv_mul_le (-a) (show b ≠ 0 by omega)
  have h2 := Int.lt_ediv_add_one_mul_self (-a) hb
  have h4 : (-a) / b * b = -(-((-a) / b) * b) := by rw [Int.neg_mul]; omega
  generalize hq : (-a) / b = n at *
  have h3 : upQ a b ≤ -n := (upQ_iff hb).2 (by omega)
  have h5 : ¬ upQ a b ≤ -n - 1 := fun h => by
    have := (upQ_iff hb).1 h
    have e : (-n - 1) * b = -(n * b) - b := by rw [Int.sub_mul, Int.neg_mul]; omega
    rw [Int.add_mul] at h2
    omega
  omega
theorem tdiv_down {a b : Int} (hb : 0 < b) : (a.tmod b < 0 → a.tdiv b - 1 = a / b) ∧ (¬ a.tmod b < 0 → a.tdiv b = a / b) := by
  have h1 := Int.tmod_add_tdiv_mul a b
  have h2 := Int.emod_add_ediv_mul a b
  have h3 := Int.emod_nonneg a (show b ≠ 0 by omega)
  have h4 := Int.emod_lt_of_pos a hb
  have h5 : a.tmod b < b := Int.tmod_lt_of_pos a hb
  have h6 : -b < a.tmod b := by
    have := Int.neg_tmod a b
    have k := Int.tmod_lt_of_pos (-a) hb
    omega
  generalize a.tmod b = r at *
  generalize a % b = s at *
  generalize a.tdiv b = x at *
  generalize a / b = y at *
  have key : ∀ d : Int, (x - y) * b = s - r → d = x - y → d * b = s - r := fun d h e => by rw [e]; exact h
  have hxy : (x - y) * b = s - r := by rw [Int.sub_mul]; omega
  have hle : x - y ≤ 1 := by
    rcases Int.lt_or_le 1 (x - y) with h | h
    · have : 2 * b ≤ (x - y) * b := Int.mul_le_mul_of_nonneg_right (by omega) (by omega)
      omega
    · exact h
  have hge : 0 ≤ x - y := by
    rcases Int.lt_or_le (x - y) 0 with h | h
    · have : (x - y) * b ≤ (-1) * b := Int.mul_le_mul_of_nonneg_right (by omega) (by omega)
      omega
    · exact h
  rcases (show x - y = 0 ∨ x - y = 1 by omega) with e | e
  · rw [e] at hxy; constructor <;> intro <;> omega
  · rw [e] at hxy; constructor <;> intro <;> omega

set_option maxHeartbeats 1000000 in
theorem rdown_any (a b u : Int) (w : World) (hb : 0 < b) (ha : -4611686018427387904 ≤ a ∧ a ≤ 4611686018427387904) (hu : Hid (a / b = u)) :
    Calls Try.prog 56 #[.int .i64 a, .int .i64 b] w fun e w' => e = .returned (.int .i64 u) ∧ Below w.heap.size w w' := by
  obtain ⟨k1, k2⟩ := tdiv_down (a := a) hb
  rw [hu.out] at k1 k2
  have hb2 : ¬ b = 0 := by omega
  have hb3 : (b == 0) = false := by simpa using hb2
  have bq : -4611686018427387904 ≤ a.tdiv b ∧ a.tdiv b ≤ 4611686018427387904 := by
    have h1 := Int.natAbs_tdiv_le_natAbs a b
    omega
  obtain ⟨r, hr⟩ : ∃ r, a.tmod b = r := ⟨_, rfl⟩
  rw [hr] at k1 k2
  by_cases h : r < 0
  · have k : a.tdiv b = u + 1 := by have := k1 h; omega
    have bu : -4611686018427387905 ≤ u ∧ u ≤ 4611686018427387904 := by omega
    clear k1 k2 bq hu
    have q1 : decide (r < 0) = true := by simpa using h
    clear h
    go_enter Try.func56, Try.ntmps56
    go_wp2
    go_ret
    exact ⟨rfl, Below.refl _ _⟩
  · have k := k2 h
    rw [k] at bq
    clear k1 k2 hu
    have q1 : decide (r < 0) = false := by simpa using h
    clear h
    go_enter Try.func56, Try.ntmps56
    go_wp2
    go_ret
    exact ⟨rfl, Below.refl _ _⟩

set_option maxHeartbeats 1000000 in
theorem rup_any (a b u : Int) (w : World) (hb : 0 < b) (ha : -4611686018427387904 ≤ a ∧ a ≤ 4611686018427387904) (hu : Hid (upQ a b = u)) :
    Calls Try.prog 55 #[.int .i64 a, .int .i64 b] w fun e w' => e = .returned (.int .i64 u) ∧ Below w.heap.size w w' := by
  have hd := Lib.hid fun W => rdown_any (-a) b ((-a) / b) W hb (by omega) (Lib.hid rfl)
  have e1 := upQ_neg a hb
  rw [hu.out] at e1
  have bq : -4611686018427387904 ≤ (-a) / b ∧ (-a) / b ≤ 4611686018427387904 := by
    have h1 := Int.ediv_mul_le (-a) (show b ≠ 0 by omega)
    have h2 := Int.lt_ediv_add_one_mul_self (-a) hb
    generalize (-a) / b = n at *
    constructor
    · rcases Int.lt_or_le n (-4611686018427387904) with h | h
      · have : (n + 1) * b ≤ (n + 1) * 1 := Int.mul_le_mul_of_nonpos_left (by omega) (by omega)
        omega
      · exact h
    · rcases Int.lt_or_le 4611686018427387904 n with h | h
      · have : n * 1 ≤ n * b := Int.mul_le_mul_of_nonneg_left (by omega) (by omega)
        omega
      · exact h
  have r1 : IntKind.i64.wrap (-a) = -a := IntWalk.i64_in _ (by omega)
  have r2 : IntKind.i64.wrap (-((-a) / b)) = u := by rw [IntWalk.i64_in _ (by omega)]; exact e1
  generalize (-a) / b = n at *
  clear e1 bq hu hb
  go_enter Try.func55, Try.ntmps55
  go_wp2_with fail
  refine (hd.out _).mono ?_
  rintro e W1 ⟨rfl, hb1⟩
  go_wp2_with fail
  go_ret
  exact ⟨rfl, hb1⟩

/-- a number within limits -/
def InOk (a b n : Int) : Prop := a ≤ n ∧ n ≤ b
set_option maxHeartbeats 1000000 in
theorem rin_any (n a b : Int) (w : World) : Calls Try.prog 66 #[.int .i64 n, .int .i64 a, .int .i64 b] w (SomeBool (InOk a b n) w) := by
  by_cases c1 : a ≤ n
  · have q1 : decide (a ≤ n) = true := by simpa using c1
    by_cases c2 : n ≤ b
    · have q2 : decide (n ≤ b) = true := by simpa using c2
      have hf := Lib.hid (show InOk a b n from ⟨c1, c2⟩)
      go_enter Try.func66, Try.ntmps66
      go_wp2
      go_ret
      exact SomeBool.yes hf.out (Below.refl _ _)
    · have q2 : decide (n ≤ b) = false := by simpa using c2
      have hf := Lib.hid (show ¬ InOk a b n from fun h => c2 h.2)
      go_enter Try.func66, Try.ntmps66
      go_wp2
      go_ret
      exact SomeBool.no hf.out (Below.refl _ _)
  · have q1 : decide (a ≤ n) = false := by simpa using c1
    have hf := Lib.hid (show ¬ InOk a b n from fun h => c1 h.1)
    go_enter Try.func66, Try.ntmps66
    go_wp2
    go_ret
    exact SomeBool.no hf.out (Below.refl _ _)

set_option maxHeartbeats 1000000 in
theorem rwithin_any (lo hi a b : Int) (w : World) : Calls Try.prog 70 #[.agg #[.int .i64 a, .int .i64 b], .int .i64 lo, .int .i64 hi] w (SomeBool (SpIn lo hi a b) w) := by
  by_cases c1 : lo ≤ a
  · have c1' : decide (lo ≤ a) = true := by simpa using c1
    by_cases c2 : a ≤ b
    · have c2' : decide (a ≤ b) = true := by simpa using c2
      by_cases c3 : b ≤ hi
      · have c3' : decide (b ≤ hi) = true := by simpa using c3
        have hf := Lib.hid (show SpIn lo hi a b from ⟨c1, c2, c3⟩)
        go_enter Try.func70, Try.ntmps70
        go_wp2
        go_ret
        exact SomeBool.yes hf.out ((Below.refl _ _).alloc (Nat.le_refl _) _)
      · have c3' : decide (b ≤ hi) = false := by simpa using c3
        have hf := Lib.hid (show ¬ SpIn lo hi a b from fun h => c3 h.2.2)
        go_enter Try.func70, Try.ntmps70
        go_wp2
        go_ret
        exact SomeBool.no hf.out ((Below.refl _ _).alloc (Nat.le_refl _) _)
    · have c2' : decide (a ≤ b) = false := by simpa using c2
      have hf := Lib.hid (show ¬ SpIn lo hi a b from fun h => c2 h.2.1)
      go_enter Try.func70, Try.ntmps70
      go_wp2
      go_ret
      exact SomeBool.no hf.out ((Below.refl _ _).alloc (Nat.le_refl _) _)
  · have c1' : decide (lo ≤ a) = false := by simpa using c1
    have hf := Lib.hid (show ¬ SpIn lo hi a b from fun h => c1 h.1)
    go_enter Try.func70, Try.ntmps70
    go_wp2
    go_ret
    exact SomeBool.no hf.out ((Below.refl _ _).alloc (Nat.le_refl _) _)

set_option maxHeartbeats 1000000 in
theorem rplus_any (a b c d u v : Int) (w : World) (hu : Hid (a + c = u)) (hv : Hid (b + d = v)) (bu : -9223372036854775808 ≤ u ∧ u ≤ 9223372036854775807) (bv : -9223372036854775808 ≤ v ∧ v ≤ 9223372036854775807) :
    Calls Try.prog 72 #[.agg #[.int .i64 a, .int .i64 b], .agg #[.int .i64 c, .int .i64 d]] w fun e w' => e = .returned (.agg #[.int .i64 u, .int .i64 v]) ∧ Below w.heap.size w w' := by
  have w1 : IntKind.i64.wrap (a + c) = u := by rw [IntWalk.i64_in _ (by rw [hu.out]; exact bu)]; exact hu.out
  have w2 : IntKind.i64.wrap (b + d) = v := by rw [IntWalk.i64_in _ (by rw [hv.out]; exact bv)]; exact hv.out
  clear bu bv
  go_enter Try.func72, Try.ntmps72
  go_wp2
  refine ret_world (fun W => Below w.heap.size w W ∧ Blk W (w.heap.size + 1 + 1) 23 #[.int .i64 u, .int .i64 v]) ⟨(((Below.refl _ _).alloc (Nat.le_refl _) _).alloc (by simp) _).alloc (by simp; omega) _, blk_at (by simp)⟩ ?_
  rintro W ⟨hB, b0⟩
  obtain ⟨x0, x1, _, _⟩ := b0.facts2
  exact bodyPost_ret (v := .agg #[.int .i64 u, .int .i64 v]) (by simp [results, Try.results72, go_sem, x0, x1]) rfl ⟨rfl, hB⟩

set_option maxHeartbeats 2000000 in
theorem rpart_any (a b c d u v : Int) (w : World) (hu : Hid (a * c / 1000 = u)) (hv : Hid (upQ (b * d) 1000 = v)) (bu : -4611686018427387904 ≤ a * c ∧ a * c ≤ 4611686018427387904) (bv : -4611686018427387904 ≤ b * d ∧ b * d ≤ 4611686018427387904) :
    Calls Try.prog 71 #[.agg #[.int .i64 a, .int .i64 b], .agg #[.int .i64 c, .int .i64 d]] w fun e w' => e = .returned (.agg #[.int .i64 u, .int .i64 v]) ∧ Below w.heap.size w w' := by
  have w1 : IntKind.i64.wrap (a * c) = a * c := IntWalk.i64_in _ (by omega)
  have w2 : IntKind.i64.wrap (b * d) = b * d := IntWalk.i64_in _ (by omega)
  have k1 := Lib.hid fun W => rdown_any (a * c) 1000 u W (by omega) bu hu
  have k2 := Lib.hid fun W => rup_any (b * d) 1000 v W (by omega) bv hv
  clear bu bv hu hv
  go_enter Try.func71, Try.ntmps71
  go_upto_region 1 with fail
  refine wp_world (fun W => Below w.heap.size w W ∧ Blk W w.heap.size 23 #[.int .i64 a, .int .i64 b] ∧ Blk W (w.heap.size + 1) 23 #[.int .i64 c, .int .i64 d] ∧ Blk W (w.heap.size + 1 + 1) 23 #[.int .i64 0, .int .i64 0])
    ⟨(((Below.refl _ _).alloc (Nat.le_refl _) _).alloc (by simp) _).alloc (by simp; omega) _, ((Blk.new _ _ _).alloc _).alloc _, (blk_at (by simp)).alloc _, blk_at (by simp)⟩ ?_
  rintro W0 ⟨hB0, b0, b1, b2⟩
  obtain ⟨x0, x1, _, _⟩ := b0.facts2
  obtain ⟨y0, y1, _, _⟩ := b1.facts2
  have x0' := fun d os => cell_regrown x0 d os
  have x1' := fun d os => cell_regrown x1 d os
  have y0' := fun d os => cell_regrown y0 d os
  have y1' := fun d os => cell_regrown y1 d os
  refine wp_region_below_tail 13 (by kernel_rfl) (by kernel_rfl) ?_
  simp only [List.take_succ_cons, List.take_zero, List.drop_succ_cons, List.drop_zero]
  repeat (quiet_step (fail))
  quiet_step (first | (go_at_call 56; exact quiet_call (fun W1 _ => k1.out W1)))
  repeat (quiet_step (fail))
  quiet_step (first | (go_at_call 55; exact quiet_call (fun W1 _ => k2.out W1)))
  repeat (quiet_step (fail))
  refine wpQuiet_nil ?_
  intro _ hw'
  obtain ⟨⟨dq, osq⟩, hw''⟩ := hw'
  subst hw''
  have hb := below_regrown W0 dq osq
  replace b2 := b2.below hb b2.lt
  have hB := hB0.trans (hb.mono hB0.size)
  clear hb hB0 x0 x1 y0 y1 x0' x1' y0' y1' b0 b1 k1 k2 w1 w2
  generalize grow (redrawn W0 dq) osq = W1 at *
  obtain ⟨y0, y1, _, _⟩ := b2.facts2
  have n2 := b2.lt
  go_wp2
  refine ret_world (fun W => Below w.heap.size w W ∧ Blk W (w.heap.size + 1 + 1) 23 #[.int .i64 u, .int .i64 v]) ⟨belowp hB (by omega), b2.setp⟩ ?_
  clear y0 y1 b2 hB
  rintro W ⟨hB, b1⟩
  obtain ⟨y0, y1, _, _⟩ := b1.facts2
  exact bodyPost_ret (v := .agg #[.int .i64 u, .int .i64 v]) (by simp [results, Try.results71, go_sem, y0, y1]) rfl ⟨rfl, hB⟩

set_option maxHeartbeats 4000000 in
set_option maxRecDepth 100000 in
theorem rvalid_any (g m x1 x2 h1 h2 : Int) (w : World) : Calls Try.prog 47 #[.agg #[.int .i64 g, .int .i64 m, .int .i64 x1, .int .i64 x2, .int .i64 h1, .int .i64 h2]] w (SomeBool (MashOk g m x1 x2 h1 h2) w) := by
  have c0 := Lib.hid fun W => rin_any g 1 16777216 W
  have c1 := Lib.hid fun W => rin_any m 1 16777216 W
  have c2 := Lib.hid fun W => rwithin_any 0 1000 x1 x2 W
  have c3 := Lib.hid fun W => rwithin_any 0 10000 h1 h2 W
  have hyes := Lib.hid fun (k0 : InOk 1 16777216 g) (k1 : InOk 1 16777216 m) (k2 : SpIn 0 1000 x1 x2) (k3 : SpIn 0 10000 h1 h2) W (hB : Below w.heap.size w W) => SomeBool.yes (p := MashOk g m x1 x2 h1 h2) (⟨k0, k1, k2, k3⟩) hB
  have n0 := Lib.hid fun (k : ¬ (InOk 1 16777216 g)) W (hB : Below w.heap.size w W) => SomeBool.no (p := MashOk g m x1 x2 h1 h2) (fun h => k (h.1)) hB
  have n1 := Lib.hid fun (k : ¬ (InOk 1 16777216 m)) W (hB : Below w.heap.size w W) => SomeBool.no (p := MashOk g m x1 x2 h1 h2) (fun h => k (h.2.1)) hB
  have n2 := Lib.hid fun (k : ¬ (SpIn 0 1000 x1 x2)) W (hB : Below w.heap.size w W) => SomeBool.no (p := MashOk g m x1 x2 h1 h2) (fun h => k (h.2.2.1)) hB
  have n3 := Lib.hid fun (k : ¬ (SpIn 0 10000 h1 h2)) W (hB : Below w.heap.size w W) => SomeBool.no (p := MashOk g m x1 x2 h1 h2) (fun h => k (h.2.2.2)) hB
  go_enter Try.func47, Try.ntmps47
  go_wp2_with fail
  refine calls_world (fun W => Below w.heap.size w W ∧ Blk W w.heap.size 25 #[.int .i64 g, .int .i64 m, .int .i64 x1, .int .i64 x2, .int .i64 h1, .int .i64 h2]) ⟨(Below.refl _ _).alloc (Nat.le_refl _) _, Blk.new _ _ _⟩ ?_
  rintro W0 ⟨hB, b0⟩
  refine (c0.out _).mono ?_
  rintro e W1 ⟨r, rfl, hr, hb⟩
  replace b0 := b0.below hb b0.lt
  replace hB := hB.trans (hb.mono hB.size)
  clear hb c0
  obtain ⟨x0, x1, x2, x3, x4, x5⟩ := b0.facts6
  cases r with
  | false =>
    replace n0 := Lib.hid (n0.out (fun h => Bool.noConfusion (hr.2 h)))
    clear hr hyes n1 c1 n2 c2 n3 c3
    go_wp2_with fail
    go_ret
    exact n0.out _ hB
  | true =>
    replace hyes := Lib.hid (hyes.out (hr.1 rfl))
    clear hr n0
    go_wp2_with fail
    refine (c1.out _).mono ?_
    rintro e W2 ⟨r, rfl, hr, hb⟩
    replace b0 := b0.below hb b0.lt
    replace hB := hB.trans (hb.mono hB.size)
    clear hb c1 x0 x1 x2 x3 x4 x5
    obtain ⟨x0, x1, x2, x3, x4, x5⟩ := b0.facts6
    cases r with
    | false =>
      replace n1 := Lib.hid (n1.out (fun h => Bool.noConfusion (hr.2 h)))
      clear hr hyes n2 c2 n3 c3
      go_wp2_with fail
      go_ret
      exact n1.out _ hB
    | true =>
      replace hyes := Lib.hid (hyes.out (hr.1 rfl))
      clear hr n1
      go_wp2_with fail
      refine (c2.out _).mono ?_
      rintro e W3 ⟨r, rfl, hr, hb⟩
      replace b0 := b0.below hb b0.lt
      replace hB := hB.trans (hb.mono hB.size)
      clear hb c2 x0 x1 x2 x3 x4 x5
      obtain ⟨x0, x1, x2, x3, x4, x5⟩ := b0.facts6
      cases r with
      | false =>
        replace n2 := Lib.hid (n2.out (fun h => Bool.noConfusion (hr.2 h)))
        clear hr hyes n3 c3
        go_wp2_with fail
        go_ret
        exact n2.out _ hB
      | true =>
        replace hyes := Lib.hid (hyes.out (hr.1 rfl))
        clear hr n2
        go_wp2_with fail
        refine (c3.out _).mono ?_
        rintro e W4 ⟨r, rfl, hr, hb⟩
        replace b0 := b0.below hb b0.lt
        replace hB := hB.trans (hb.mono hB.size)
        clear hb c3 x0 x1 x2 x3 x4 x5
        cases r with
        | false =>
          replace n3 := Lib.hid (n3.out (fun h => Bool.noConfusion (hr.2 h)))
          clear hr hyes 
          go_wp2_with fail
          go_ret
          exact n3.out _ hB
        | true =>
          replace hyes := Lib.hid (hyes.out (hr.1 rfl))
          clear hr n3
          go_wp2_with fail
          go_ret
          exact hyes.out _ hB

set_option maxHeartbeats 4000000 in
set_option maxRecDepth 100000 in
theorem rvat_any (v : VatV) (w : World) : Calls Try.prog 39 #[.agg v.cells] w (SomeBool (VatOk v) w) := by
  have c0 := Lib.hid fun W => rwithin_any 0 1073741824 v.s1 v.s2 W
  have c1 := Lib.hid fun W => rwithin_any 0 1073741824 v.e1 v.e2 W
  have c2 := Lib.hid fun W => rwithin_any 0 1073741824 v.p1 v.p2 W
  have c3 := Lib.hid fun W => rwithin_any 0 1073741824 v.g1 v.g2 W
  have c4 := Lib.hid fun W => rwithin_any 0 1073741824 v.o1 v.o2 W
  have c5 := Lib.hid fun W => rwithin_any (-50000) 150000 v.t1 v.t2 W
  have c6 := Lib.hid fun W => rin_any v.c 1 1099511627776 W
  have hyes := Lib.hid fun (k0 : SpIn 0 1073741824 v.s1 v.s2) (k1 : SpIn 0 1073741824 v.e1 v.e2) (k2 : SpIn 0 1073741824 v.p1 v.p2) (k3 : SpIn 0 1073741824 v.g1 v.g2) (k4 : SpIn 0 1073741824 v.o1 v.o2) (k5 : SpIn (-50000) 150000 v.t1 v.t2) (k6 : InOk 1 1099511627776 v.c) W (hB : Below w.heap.size w W) => SomeBool.yes (p := VatOk v) (⟨⟨k0, k1, k2, k3, k4, k5⟩, k6⟩) hB
  have n0 := Lib.hid fun (k : ¬ (SpIn 0 1073741824 v.s1 v.s2)) W (hB : Below w.heap.size w W) => SomeBool.no (p := VatOk v) (fun h => k (h.1.1)) hB
  have n1 := Lib.hid fun (k : ¬ (SpIn 0 1073741824 v.e1 v.e2)) W (hB : Below w.heap.size w W) => SomeBool.no (p := VatOk v) (fun h => k (h.1.2.1)) hB
  have n2 := Lib.hid fun (k : ¬ (SpIn 0 1073741824 v.p1 v.p2)) W (hB : Below w.heap.size w W) => SomeBool.no (p := VatOk v) (fun h => k (h.1.2.2.1)) hB
  have n3 := Lib.hid fun (k : ¬ (SpIn 0 1073741824 v.g1 v.g2)) W (hB : Below w.heap.size w W) => SomeBool.no (p := VatOk v) (fun h => k (h.1.2.2.2.1)) hB
  have n4 := Lib.hid fun (k : ¬ (SpIn 0 1073741824 v.o1 v.o2)) W (hB : Below w.heap.size w W) => SomeBool.no (p := VatOk v) (fun h => k (h.1.2.2.2.2.1)) hB
  have n5 := Lib.hid fun (k : ¬ (SpIn (-50000) 150000 v.t1 v.t2)) W (hB : Below w.heap.size w W) => SomeBool.no (p := VatOk v) (fun h => k (h.1.2.2.2.2.2)) hB
  have n6 := Lib.hid fun (k : ¬ (InOk 1 1099511627776 v.c)) W (hB : Below w.heap.size w W) => SomeBool.no (p := VatOk v) (fun h => k (h.2)) hB
  obtain ⟨s1, s2, e1, e2, p1, p2, g1, g2, o1, o2, t1, t2, c⟩ := v
  simp only [VatV.cells] at *
  go_enter Try.func39, Try.ntmps39
  go_wp2_with fail
  refine calls_world (fun W => Below w.heap.size w W ∧ Blk W w.heap.size 38 #[.int .i64 s1, .int .i64 s2, .int .i64 e1, .int .i64 e2, .int .i64 p1, .int .i64 p2, .int .i64 g1, .int .i64 g2, .int .i64 o1, .int .i64 o2, .int .i64 t1, .int .i64 t2, .int .i64 c]) ⟨(Below.refl _ _).alloc (Nat.le_refl _) _, Blk.new _ _ _⟩ ?_
  rintro W0 ⟨hB, b0⟩
  refine (c0.out _).mono ?_
  rintro e W1 ⟨r, rfl, hr, hb⟩
  replace b0 := b0.below hb b0.lt
  replace hB := hB.trans (hb.mono hB.size)
  clear hb c0
  obtain ⟨x0, x1, x2, x3, x4, x5, x6, x7, x8, x9, x10, x11, x12⟩ := b0.facts13
  cases r with
  | false =>
    replace n0 := Lib.hid (n0.out (fun h => Bool.noConfusion (hr.2 h)))
    clear hr hyes n1 c1 n2 c2 n3 c3 n4 c4 n5 c5 n6 c6
    go_wp2_with fail
    go_ret
    exact n0.out _ hB
  | true =>
    replace hyes := Lib.hid (hyes.out (hr.1 rfl))
    clear hr n0
    go_wp2_with fail
    refine (c1.out _).mono ?_
    rintro e W2 ⟨r, rfl, hr, hb⟩
    replace b0 := b0.below hb b0.lt
    replace hB := hB.trans (hb.mono hB.size)
    clear hb c1 x0 x1 x2 x3 x4 x5 x6 x7 x8 x9 x10 x11 x12
    obtain ⟨x0, x1, x2, x3, x4, x5, x6, x7, x8, x9, x10, x11, x12⟩ := b0.facts13
    cases r with
    | false =>
      replace n1 := Lib.hid (n1.out (fun h => Bool.noConfusion (hr.2 h)))
      clear hr hyes n2 c2 n3 c3 n4 c4 n5 c5 n6 c6
      go_wp2_with fail
      go_ret
      exact n1.out _ hB
    | true =>
      replace hyes := Lib.hid (hyes.out (hr.1 rfl))
      clear hr n1
      go_wp2_with fail
      refine (c2.out _).mono ?_
      rintro e W3 ⟨r, rfl, hr, hb⟩
      replace b0 := b0.below hb b0.lt
      replace hB := hB.trans (hb.mono hB.size)
      clear hb c2 x0 x1 x2 x3 x4 x5 x6 x7 x8 x9 x10 x11 x12
      obtain ⟨x0, x1, x2, x3, x4, x5, x6, x7, x8, x9, x10, x11, x12⟩ := b0.facts13
      cases r with
      | false =>
        replace n2 := Lib.hid (n2.out (fun h => Bool.noConfusion (hr.2 h)))
        clear hr hyes n3 c3 n4 c4 n5 c5 n6 c6
        go_wp2_with fail
        go_ret
        exact n2.out _ hB
      | true =>
        replace hyes := Lib.hid (hyes.out (hr.1 rfl))
        clear hr n2
        go_wp2_with fail
        refine (c3.out _).mono ?_
        rintro e W4 ⟨r, rfl, hr, hb⟩
        replace b0 := b0.below hb b0.lt
        replace hB := hB.trans (hb.mono hB.size)
        clear hb c3 x0 x1 x2 x3 x4 x5 x6 x7 x8 x9 x10 x11 x12
        obtain ⟨x0, x1, x2, x3, x4, x5, x6, x7, x8, x9, x10, x11, x12⟩ := b0.facts13
        cases r with
        | false =>
          replace n3 := Lib.hid (n3.out (fun h => Bool.noConfusion (hr.2 h)))
          clear hr hyes n4 c4 n5 c5 n6 c6
          go_wp2_with fail
          go_ret
          exact n3.out _ hB
        | true =>
          replace hyes := Lib.hid (hyes.out (hr.1 rfl))
          clear hr n3
          go_wp2_with fail
          refine (c4.out _).mono ?_
          rintro e W5 ⟨r, rfl, hr, hb⟩
          replace b0 := b0.below hb b0.lt
          replace hB := hB.trans (hb.mono hB.size)
          clear hb c4 x0 x1 x2 x3 x4 x5 x6 x7 x8 x9 x10 x11 x12
          obtain ⟨x0, x1, x2, x3, x4, x5, x6, x7, x8, x9, x10, x11, x12⟩ := b0.facts13
          cases r with
          | false =>
            replace n4 := Lib.hid (n4.out (fun h => Bool.noConfusion (hr.2 h)))
            clear hr hyes n5 c5 n6 c6
            go_wp2_with fail
            go_ret
            exact n4.out _ hB
          | true =>
            replace hyes := Lib.hid (hyes.out (hr.1 rfl))
            clear hr n4
            go_wp2_with fail
            refine (c5.out _).mono ?_
            rintro e W6 ⟨r, rfl, hr, hb⟩
            replace b0 := b0.below hb b0.lt
            replace hB := hB.trans (hb.mono hB.size)
            clear hb c5 x0 x1 x2 x3 x4 x5 x6 x7 x8 x9 x10 x11 x12
            obtain ⟨x0, x1, x2, x3, x4, x5, x6, x7, x8, x9, x10, x11, x12⟩ := b0.facts13
            cases r with
            | false =>
              replace n5 := Lib.hid (n5.out (fun h => Bool.noConfusion (hr.2 h)))
              clear hr hyes n6 c6
              go_wp2_with fail
              go_ret
              exact n5.out _ hB
            | true =>
              replace hyes := Lib.hid (hyes.out (hr.1 rfl))
              clear hr n5
              go_wp2_with fail
              refine (c6.out _).mono ?_
              rintro e W7 ⟨r, rfl, hr, hb⟩
              replace b0 := b0.below hb b0.lt
              replace hB := hB.trans (hb.mono hB.size)
              clear hb c6 x0 x1 x2 x3 x4 x5 x6 x7 x8 x9 x10 x11 x12
              cases r with
              | false =>
                replace n6 := Lib.hid (n6.out (fun h => Bool.noConfusion (hr.2 h)))
                clear hr hyes 
                go_wp2_with fail
                go_ret
                exact n6.out _ hB
              | true =>
                replace hyes := Lib.hid (hyes.out (hr.1 rfl))
                clear hr n6
                go_wp2_with fail
                go_ret
                exact hyes.out _ hB

set_option maxHeartbeats 1000000 in
theorem rcooling_any (a b : Int) (w : World) : Calls Try.prog 59 #[.agg #[.int .i64 a, .int .i64 b]] w (SomeBool (SpIn 0 150000 a b) w) := by
  have c0 := Lib.hid fun W => rwithin_any 0 150000 a b W
  have hfin := Lib.hid fun W e W' (h : SomeBool (SpIn 0 150000 a b) W e W') (hB : Below w.heap.size w W) => (show SomeBool (SpIn 0 150000 a b) w e W' from by
    obtain ⟨r, rfl, hr, hb⟩ := h
    exact ⟨r, rfl, hr, hB.trans (hb.mono hB.size)⟩)
  go_enter Try.func59, Try.ntmps59
  go_wp2_with fail
  refine calls_world (fun W => Below w.heap.size w W) ((Below.refl _ _).alloc (Nat.le_refl _) _) ?_
  intro W0 hB
  refine (c0.out _).mono ?_
  intro e W1 h
  replace h := Lib.hid (hfin.out _ _ _ h hB)
  obtain ⟨r, rfl, hr, hb⟩ := h.out
  go_wp2_with fail
  go_ret
  exact h.out
end Go.Proofs.Ytjcadgklamhohaa
