/- WashMade returns true, whatever the mash is, and whatever its extract and what is held back truly are. -/
import Derived.Test.YtjcadgklamhohaaMadeMath
namespace Go.Proofs.Ytjcadgklamhohaa
open Go.RowKit Go.Sort
attribute [local go_sem] Oper.calm Oper.calmAt Oper.calmUpon

set_option maxHeartbeats 1000000 in
theorem part_any (n : Int) (w : World) (h : 0 ≤ n) : Calls Try.prog 48 #[.int .i64 n] w fun e w' => e = .returned (.bool true) ∧ Below w.heap.size w w' := by
  have q1 : decide (0 ≤ n) = true := by simpa using h
  go_enter Try.func48, Try.ntmps48
  go_wp2
  go_ret
  exact ⟨rfl, Below.refl _ _⟩

set_option maxHeartbeats 8000000 in
set_option maxRecDepth 100000 in
theorem law_made (g m x1 x2 h1 h2 ux uh : Int) (w : World) (hux : 0 ≤ ux ∧ ux ≤ 4294967295) (huh : 0 ≤ uh ∧ uh ≤ 4294967295) :
    Calls Try.prog 11 #[.agg #[.int .i64 g, .int .i64 m, .int .i64 x1, .int .i64 x2, .int .i64 h1, .int .i64 h2], .int .u32 ux, .int .u32 uh] w fun e w' => e = .returned (.bool true) ∧ Below w.heap.size w w' := by
  have k1 := Lib.hid fun W => Mash_any g m x1 x2 h1 h2 W
  have kv := Lib.hid fun W => rvalid_any g m x1 x2 h1 h2 W
  have ka := Lib.hid alive_any
  by_cases hok : MashOk g m x1 x2 h1 h2
  case neg =>
    have e1 : mashR g m x1 x2 h1 h2 = ⟨0, 0, 0, 0, 0, 0, 1⟩ := by unfold mashR; rw [if_neg hok]
    rw [e1] at k1
    simp only [wortV] at k1
    clear e1 hok kv
    go_enter Try.func11, Try.ntmps11
    go_wp2_with fail
    refine calls_world (fun W => Below w.heap.size w W) ((Below.refl _ _).alloc (Nat.le_refl _) _) ?_
    intro W0 hB
    refine (k1.out _).mono ?_
    rintro e W1 ⟨rfl, hb⟩
    replace hB := hB.trans (hb.mono hB.size)
    clear hb k1
    go_upto_region 2 with fail
    refine wp_world (fun W => Below w.heap.size w W ∧ Blk W W1.heap.size 27 #[.int .i64 0, .int .i64 0, .int .i64 0, .int .i64 0] ∧ Blk W (W1.heap.size + 1) 23 #[.int .i64 0, .int .i64 0]) ⟨(hB.alloc hB.size _).alloc (by have := hB.size; simp; omega) _, (Blk.new _ _ _).alloc _, blk_at (by simp)⟩ ?_
    clear hB
    generalize W1.heap.size = g1
    rintro W2 ⟨hB, b1, b2⟩
    obtain ⟨x0, x1, x2, x3, _, _, _, _⟩ := b1.facts4
    obtain ⟨y0, y1, _, _⟩ := b2.facts2
    go_wp2_with fail
    refine (ka.out _).mono ?_
    rintro e W3 ⟨rfl, hb⟩
    go_wp2_with fail
    go_ret
    exact ⟨rfl, hB.trans (hb.mono hB.size)⟩
  by_cases hsh : volLo g m h2 < 1
  · have e1 : mashR g m x1 x2 h1 h2 = ⟨0, 0, 0, 0, 0, 0, 10⟩ := by unfold mashR; rw [if_pos hok, if_pos hsh]
    rw [e1] at k1
    simp only [wortV] at k1
    clear e1 hok kv hsh
    go_enter Try.func11, Try.ntmps11
    go_wp2_with fail
    refine calls_world (fun W => Below w.heap.size w W) ((Below.refl _ _).alloc (Nat.le_refl _) _) ?_
    intro W0 hB
    refine (k1.out _).mono ?_
    rintro e W1 ⟨rfl, hb⟩
    replace hB := hB.trans (hb.mono hB.size)
    clear hb k1
    go_upto_region 2 with fail
    refine wp_world (fun W => Below w.heap.size w W ∧ Blk W W1.heap.size 27 #[.int .i64 0, .int .i64 0, .int .i64 0, .int .i64 0] ∧ Blk W (W1.heap.size + 1) 23 #[.int .i64 0, .int .i64 0]) ⟨(hB.alloc hB.size _).alloc (by have := hB.size; simp; omega) _, (Blk.new _ _ _).alloc _, blk_at (by simp)⟩ ?_
    clear hB
    generalize W1.heap.size = g1
    rintro W2 ⟨hB, b1, b2⟩
    obtain ⟨x0, x1, x2, x3, _, _, _, _⟩ := b1.facts4
    obtain ⟨y0, y1, _, _⟩ := b2.facts2
    go_wp2_with fail
    refine (ka.out _).mono ?_
    rintro e W3 ⟨rfl, hb⟩
    go_wp2_with fail
    go_ret
    exact ⟨rfl, hB.trans (hb.mono hB.size)⟩
  have e1 : mashR g m x1 x2 h1 h2 = ⟨g * x1 * volLo g m h2 / (1000 * m), upQ (g * x2 * volHi g m h1) (1000 * m), volLo g m h2, volHi g m h1, g * x1 * (m - volHi g m h1) / (1000 * m), upQ (g * x2 * (m - volLo g m h2)) (1000 * m), 0⟩ := by unfold mashR; rw [if_pos hok, if_neg hsh]
  rw [e1] at k1
  simp only [wortV] at k1
  obtain ⟨_, _, _, _, z9, z10⟩ := vol_bd hok
  obtain ⟨⟨g0, g1⟩, ⟨m0, m1⟩, ⟨xa, xb, xc⟩, ⟨ha, hb, hc⟩⟩ := id hok
  have hx := inn_in (u := ux) xb
  have hh := inn_in (u := uh) hb
  have ki1 := Lib.hid fun W => inner_any x1 x2 ux (innN x1 x2 ux) W xb (by omega) (by omega) hux (Lib.hid rfl)
  have ki2 := Lib.hid fun W => inner_any h1 h2 uh (innN h1 h2 uh) W hb (by omega) (by omega) huh (Lib.hid rfl)
  obtain ⟨⟨t1, t2⟩, ⟨t3, t4⟩, ⟨t5, t6⟩, t7, t8, t9, t10, t11, t12⟩ := mash_true hok hsh hx hh
  have kv2 := Lib.hid fun W => (kv.out W).mono fun e w' k => k.is_true hok
  have vlo : 1 ≤ volLo g m h2 := by omega
  have X1b := prod_bd (A := 16777216) (B := 1000) (show 0 ≤ g by omega) g1 (show 0 ≤ innN x1 x2 ux by omega) (show innN x1 x2 ux ≤ 1000 by omega)
  have H1b := prod_bd (A := 16777216) (B := 10000) (show 0 ≤ g by omega) g1 (show 0 ≤ innN h1 h2 uh by omega) (show innN h1 h2 uh ≤ 10000 by omega)
  have ups : upQ (g * x2 * volHi g m h1) (1000 * m) ≤ 16777216000 := by
    have k := prod_bd (A := 16777216) (B := 1000) (show 0 ≤ g by omega) g1 (show 0 ≤ x2 by omega) xc
    have k2 : g * x2 * volHi g m h1 ≤ 16777216000 * m := Int.mul_le_mul (by omega) z9 (by omega) (by omega)
    exact upQ_le (by omega) (by omega)
  have upl : upQ (g * x2 * (m - volLo g m h2)) (1000 * m) ≤ 16777216000 := by
    have k := prod_bd (A := 16777216) (B := 1000) (show 0 ≤ g by omega) g1 (show 0 ≤ x2 by omega) xc
    have k2 : g * x2 * (m - volLo g m h2) ≤ 16777216000 * m := Int.mul_le_mul (by omega) (by omega) (by omega) (by omega)
    exact upQ_le (by omega) (by omega)
  have p5 : 0 ≤ 1000 * m * upQ (g * x2 * volHi g m h1) (1000 * m) ∧ 1000 * m * upQ (g * x2 * volHi g m h1) (1000 * m) ≤ 300000000000000000 := by
    have k := prod_bd (A := 16777216) (B := 1000) (show 0 ≤ g by omega) g1 (show 0 ≤ x2 by omega) xc
    have k2 := prod_bd (a := g * x2) (b := volHi g m h1) (A := 16777216000) (B := 16777216) k.1 k.2 (by omega) (by omega)
    have k3 := @dn_le (g * x2 * volHi g m h1 + 1000 * m - 1) (1000 * m) (by omega)
    have k4 := (upQ_bd (show 0 < 1000 * m by omega) k2.1).1
    have k5 : 0 ≤ 1000 * m * upQ (g * x2 * volHi g m h1) (1000 * m) := Int.mul_nonneg (by omega) k4
    rw [Int.mul_comm] at k3
    unfold upQ at k5 ⊢
    omega
  have p6 : 0 ≤ 1000 * m * upQ (g * x2 * (m - volLo g m h2)) (1000 * m) ∧ 1000 * m * upQ (g * x2 * (m - volLo g m h2)) (1000 * m) ≤ 300000000000000000 := by
    have k := prod_bd (A := 16777216) (B := 1000) (show 0 ≤ g by omega) g1 (show 0 ≤ x2 by omega) xc
    have k2 := prod_bd (a := g * x2) (b := m - volLo g m h2) (A := 16777216000) (B := 16777216) k.1 k.2 (by omega) (by omega)
    have k3 := @dn_le (g * x2 * (m - volLo g m h2) + 1000 * m - 1) (1000 * m) (by omega)
    have k4 := (upQ_bd (show 0 < 1000 * m by omega) k2.1).1
    have k5 : 0 ≤ 1000 * m * upQ (g * x2 * (m - volLo g m h2)) (1000 * m) := Int.mul_nonneg (by omega) k4
    rw [Int.mul_comm] at k3
    unfold upQ at k5 ⊢
    omega
  clear kv e1 hok hsh xa xb xc ha hb hc hux huh
  generalize innN x1 x2 ux = x at *
  generalize innN h1 h2 uh = h at *
  generalize g * x1 * volLo g m h2 / (1000 * m) = S1 at *
  generalize upQ (g * x2 * volHi g m h1) (1000 * m) = S2 at *
  generalize g * x1 * (m - volHi g m h1) / (1000 * m) = L1 at *
  generalize upQ (g * x2 * (m - volLo g m h2)) (1000 * m) = L2 at *
  generalize volLo g m h2 = v1 at *
  generalize volHi g m h1 = v2 at *
  clear hx hh
  have rM : IntKind.i64.wrap (1000 * m) = 1000 * m := IntWalk.i64_in _ (by omega)
  generalize hH : g * h = H at *
  generalize hX : g * x = X at *
  have rH : IntKind.i64.wrap (g * h) = H := by rw [hH]; exact IntWalk.i64_in _ (by omega)
  have rX : IntKind.i64.wrap (g * x) = X := by rw [hX]; exact IntWalk.i64_in _ (by omega)
  clear hH hX
  have rV : IntKind.i64.wrap (1000 * m - H) = 1000 * m - H := IntWalk.i64_in _ (by omega)
  have rV2 : IntKind.i64.wrap (1000 * m - H + 999) = 1000 * m - H + 999 := IntWalk.i64_in _ (by omega)
  have rv1 : IntKind.i64.wrap (1000 * v1) = 1000 * v1 := IntWalk.i64_in _ (by omega)
  have rv2 : IntKind.i64.wrap (1000 * v2) = 1000 * v2 := IntWalk.i64_in _ (by omega)
  have rX2 : IntKind.i64.wrap (X + 999) = X + 999 := IntWalk.i64_in _ (by omega)
  have bQ : 0 ≤ (X + 999) / 1000 ∧ (X + 999) / 1000 ≤ 16777217 := by omega
  have d1 : (X + 999).tdiv 1000 = (X + 999) / 1000 := Int.tdiv_eq_ediv_of_nonneg (by omega)
  have d2 : (1000 * m - H + 999).tdiv 1000 = (1000 * m - H + 999) / 1000 := Int.tdiv_eq_ediv_of_nonneg (by omega)
  have d3 : (1000 * m - H).tdiv 1000 = (1000 * m - H) / 1000 := Int.tdiv_eq_ediv_of_nonneg (by omega)
  have b1 : 0 ≤ (1000 * m - H) / 1000 ∧ (1000 * m - H + 999) / 1000 ≤ m ∧ (1000 * m - H) / 1000 ≤ m ∧ 0 ≤ (1000 * m - H + 999) / 1000 := by omega
  generalize (1000 * m - H + 999) / 1000 = up at *
  generalize (1000 * m - H) / 1000 = dn at *
  generalize (X + 999) / 1000 = Q at *
  have p1 := prod_bd (A := 16777216000) (B := 16777216) X1b.1 X1b.2 (show 0 ≤ up by omega) (by omega)
  have p2 := prod_bd (A := 16777216000) (B := 16777216) X1b.1 X1b.2 (show 0 ≤ dn by omega) (by omega)
  have p3 := prod_bd (A := 16777216000) (B := 16777216) X1b.1 X1b.2 (show 0 ≤ m - dn by omega) (by omega)
  have p4 := prod_bd (A := 16777216000) (B := 16777216) X1b.1 X1b.2 (show 0 ≤ m - up by omega) (by omega)
  have p7 : 0 ≤ 1000 * m * S1 := Int.mul_nonneg (by omega) (by omega)
  have p8 : 0 ≤ 1000 * m * L1 := Int.mul_nonneg (by omega) (by omega)
  have w1 : IntKind.i64.wrap (1000 * m * S1) = 1000 * m * S1 := IntWalk.i64_in _ (by omega)
  have w2 : IntKind.i64.wrap (X * up) = X * up := IntWalk.i64_in _ (by omega)
  have w3 : IntKind.i64.wrap (X * dn) = X * dn := IntWalk.i64_in _ (by omega)
  have w4 : IntKind.i64.wrap (1000 * m * S2) = 1000 * m * S2 := IntWalk.i64_in _ (by omega)
  have w5 : IntKind.i64.wrap (1000 * m * L1) = 1000 * m * L1 := IntWalk.i64_in _ (by omega)
  have w6 : IntKind.i64.wrap (m - dn) = m - dn := IntWalk.i64_in _ (by omega)
  have w7 : IntKind.i64.wrap (X * (m - dn)) = X * (m - dn) := IntWalk.i64_in _ (by omega)
  have w8 : IntKind.i64.wrap (m - up) = m - up := IntWalk.i64_in _ (by omega)
  have w9 : IntKind.i64.wrap (X * (m - up)) = X * (m - up) := IntWalk.i64_in _ (by omega)
  have w10 : IntKind.i64.wrap (1000 * m * L2) = 1000 * m * L2 := IntWalk.i64_in _ (by omega)
  have w11 : IntKind.i64.wrap (S1 + L1) = S1 + L1 := IntWalk.i64_in _ (by omega)
  have w12 : IntKind.i64.wrap (S2 + L2) = S2 + L2 := IntWalk.i64_in _ (by omega)
  have w13 : IntKind.i64.wrap (1000 * (S2 + L2)) = 1000 * (S2 + L2) := IntWalk.i64_in _ (by omega)
  have ru : IntKind.i64.wrap up = up := IntWalk.i64_in _ (by omega)
  have rd : IntKind.i64.wrap dn = dn := IntWalk.i64_in _ (by omega)
  have rq : IntKind.i64.wrap Q = Q := IntWalk.i64_in _ (by omega)
  have c1 : decide (v1 < 1) = false := by simp; omega
  have c2 : decide (1000 * m - H < 1000 * v1) = false := by simpa using t1
  have c3 : decide (1000 * v2 < 1000 * m - H) = false := by simpa using t2
  have c4 : decide (S2 < S1) = false := by simpa using t4
  have c5 : decide (L2 < L1) = false := by simpa using t6
  have c6 : decide (Q < S1 + L1) = false := by simpa using t7
  have c7 : decide (1000 * (S2 + L2) < X) = false := by simpa using t8
  have c8 : decide (1000 * m * S1 ≤ X * up) = true := by simpa using t9
  have c9 : decide (X * dn ≤ 1000 * m * S2) = true := by simpa using t10
  have c10 : decide (1000 * m * L1 ≤ X * (m - dn)) = true := by simpa using t11
  have c11 : decide (X * (m - up) ≤ 1000 * m * L2) = true := by simpa using t12
  have kp1 := Lib.hid fun W => part_any S1 W t3
  have kp2 := Lib.hid fun W => part_any L1 W t5
  clear t1 t2 t3 t4 t5 t6 t7 t8 t9 t10 t11 t12 p1 p2 p3 p4 p5 p6 p7 p8 b1 bQ X1b H1b ups upl vlo z9 z10 g0 g1 m0 m1
  go_enter Try.func11, Try.ntmps11
  go_wp2_with fail
  refine calls_world (fun W => Below w.heap.size w W ∧ Blk W w.heap.size 25 #[.int .i64 g, .int .i64 m, .int .i64 x1, .int .i64 x2, .int .i64 h1, .int .i64 h2]) ⟨(Below.refl _ _).alloc (Nat.le_refl _) _, Blk.new _ _ _⟩ ?_
  rintro W0 ⟨hB, b0⟩
  refine (k1.out _).mono ?_
  rintro e W1 ⟨rfl, hb⟩
  replace b0 := b0.below hb b0.lt
  replace hB := hB.trans (hb.mono hB.size)
  clear hb k1
  go_upto_region 2 with fail
  refine wp_world (fun W => Below w.heap.size w W ∧ Blk W w.heap.size 25 #[.int .i64 g, .int .i64 m, .int .i64 x1, .int .i64 x2, .int .i64 h1, .int .i64 h2] ∧ Blk W W1.heap.size 27 #[.int .i64 S1, .int .i64 S2, .int .i64 v1, .int .i64 v2] ∧ Blk W (W1.heap.size + 1) 23 #[.int .i64 L1, .int .i64 L2])
    ⟨(hB.alloc hB.size _).alloc (by have := hB.size; simp; omega) _, (b0.alloc _).alloc _, (Blk.new _ _ _).alloc _, blk_at (by simp)⟩ ?_
  clear hB b0
  generalize W1.heap.size = ga
  rintro W2 ⟨hB, b0, ba, bb⟩
  obtain ⟨m_0, m_1, m_2, m_3, m_4, m_5⟩ := b0.facts6
  go_wp2_with fail
  refine (kv2.out _).mono ?_
  rintro e W3 ⟨rfl, hb⟩
  replace b0 := b0.below hb b0.lt
  replace ba := ba.below hb ba.lt
  replace bb := bb.below hb bb.lt
  replace hB := hB.trans (hb.mono hB.size)
  clear hb kv2 m_0 m_1 m_2 m_3 m_4 m_5
  obtain ⟨m_0, m_1, m_2, m_3, m_4, m_5⟩ := b0.facts6
  obtain ⟨s_0, s_1, s_2, s_3, _, _, _, _⟩ := ba.facts4
  go_upto_region 6 with fail
  have m_2' := fun d os => cell_regrown m_2 d os; have m_3' := fun d os => cell_regrown m_3 d os; have m_4' := fun d os => cell_regrown m_4 d os; have m_5' := fun d os => cell_regrown m_5 d os
  refine wp_region_quiet_below (by kernel_rfl) (by kernel_rfl) ?_
  repeat (quiet_step (fail))
  quiet_step (first | (go_at_call 41; exact quiet_call (fun W1 _ => ki1.out W1)))
  repeat (quiet_step (fail))
  quiet_step (first | (go_at_call 41; exact quiet_call (fun W1 _ => ki2.out W1)))
  repeat (quiet_step (fail))
  refine wpQuiet_nil ?_
  intro _ hw'
  obtain ⟨⟨dq, osq⟩, hw''⟩ := hw'
  subst hw''
  have hb := below_regrown W3 dq osq
  replace b0 := b0.below hb b0.lt
  replace ba := ba.below hb ba.lt
  replace bb := bb.below hb bb.lt
  replace hB := hB.trans (hb.mono hB.size)
  clear hb ki1 ki2 m_2' m_3' m_4' m_5' m_0 m_1 m_2 m_3 m_4 m_5 s_0 s_1 s_2 s_3
  generalize grow (redrawn W3 dq) osq = W4 at *
  obtain ⟨m_0, m_1, m_2, m_3, m_4, m_5⟩ := b0.facts6
  obtain ⟨s_0, s_1, s_2, s_3, _, _, _, _⟩ := ba.facts4
  have s_0' := fun d os => cell_regrown s_0 d os
  have s_1' := fun d os => cell_regrown s_1 d os
  go_upto_region 11 with fail
  refine wp_region_quiet_below (by kernel_rfl) (by kernel_rfl) ?_
  repeat (quiet_step (fail))
  refine wpQuiet_nil ?_
  intro _ hw'
  obtain ⟨⟨dq, osq⟩, hw''⟩ := hw'
  subst hw''
  have hb := below_regrown W4 dq osq
  replace b0 := b0.below hb b0.lt
  replace ba := ba.below hb ba.lt
  replace bb := bb.below hb bb.lt
  replace hB := hB.trans (hb.mono hB.size)
  clear hb s_0' s_1' m_0 m_1 m_2 m_3 m_4 m_5 s_0 s_1 s_2 s_3
  generalize grow (redrawn W4 dq) osq = W5 at *
  go_wp2_with fail
  refine (kp1.out _).mono ?_
  rintro e W6 ⟨rfl, hb⟩
  replace b0 := b0.below hb b0.lt
  replace bb := bb.below hb bb.lt
  replace hB := hB.trans (hb.mono hB.size)
  clear hb kp1 ba
  obtain ⟨l_0, l_1, _, _⟩ := bb.facts2
  go_wp2_with fail
  refine (kp2.out _).mono ?_
  rintro e W7 ⟨rfl, hb⟩
  replace b0 := b0.below hb b0.lt
  replace bb := bb.below hb bb.lt
  replace hB := hB.trans (hb.mono hB.size)
  clear hb kp2 l_0 l_1
  obtain ⟨l_0, l_1, _, _⟩ := bb.facts2
  obtain ⟨m_0, m_1, m_2, m_3, m_4, m_5⟩ := b0.facts6
  go_wp2_with fail
  refine (ka.out _).mono ?_
  rintro e W8 ⟨rfl, hb⟩
  go_wp2_with fail
  go_ret
  exact ⟨rfl, hB.trans (hb.mono hB.size)⟩
end Go.Proofs.Ytjcadgklamhohaa
