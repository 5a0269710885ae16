/- What sprouting returns, or that it stops. -/
import Derived.Test.YtdadpfgcjffclaaGrain
namespace Go.Proofs.Ytdadpfgcjffclaa
open Go.RowKit Go.Sort
attribute [local go_sem] Oper.calm Oper.calmAt Oper.calmUpon

set_option maxHeartbeats 1000000 in
set_option maxRecDepth 100000 in
theorem sprout_ok (d1 d2 w1 w2 p1 p2 t1 t2 g1 g2 r1 r2 s1 s2 x y u1 v1 u2 v2 : Int) (w : World) (hd : SpOk d1 d2 1099511627776) (hw : SpOk w1 w2 1099511627776) (hp : SpOk p1 p2 1099511627776) (ht : SpOk t1 t2 1099511627776) (hg : SpOk g1 g2 1099511627776) (hr : SpOk r1 r2 1099511627776) (hs : SpOk s1 s2 1099511627776) (h : SpOk x y 10000) (hu1 : Hid (upQ (x * d1) 10000 = u1)) (hv1 : Hid (y * d2 / 10000 = v1)) (hu2 : Hid (upQ ((10000 - y) * d1) 10000 = u2)) (hv2 : Hid ((10000 - x) * d2 / 10000 = v2)) (q1 : u1 ≤ v1) (q2 : u2 ≤ v2) :
    Calls Try.prog 72 #[.agg #[.int .i64 d1, .int .i64 d2, .int .i64 w1, .int .i64 w2, .int .i64 p1, .int .i64 p2, .int .i64 t1, .int .i64 t2, .int .i64 g1, .int .i64 g2, .int .i64 r1, .int .i64 r2, .int .i64 s1, .int .i64 s2], .agg #[.int .i64 x, .int .i64 y]] w fun e w' => e = .returned (.agg #[.int .i64 u2, .int .i64 v2, .int .i64 w1, .int .i64 w2, .int .i64 p1, .int .i64 p2, .int .i64 t1, .int .i64 t2, .int .i64 (g1 + u1), .int .i64 (g2 + v1), .int .i64 r1, .int .i64 r2, .int .i64 s1, .int .i64 s2]) ∧ Below w.heap.size w w' := by
  obtain ⟨hd0, hd1, hd2⟩ := hd
  obtain ⟨hw0, hw1, hw2⟩ := hw
  obtain ⟨hp0, hp1, hp2⟩ := hp
  obtain ⟨ht0, ht1, ht2⟩ := ht
  obtain ⟨hg0, hg1, hg2⟩ := hg
  obtain ⟨hr0, hr1, hr2⟩ := hr
  obtain ⟨hs0, hs1, hs2⟩ := hs
  obtain ⟨hx0, hx1, hx2⟩ := h
  have e1 := prod_bd hx0 (show x ≤ 10000 by omega) hd0 (show d1 ≤ 1099511627776 by omega)
  have e2 := prod_bd (show 0 ≤ y by omega) hx2 (show 0 ≤ d2 by omega) hd2
  have e3 := prod_bd (show 0 ≤ 10000 - y by omega) (show 10000 - y ≤ 10000 by omega) hd0 (show d1 ≤ 1099511627776 by omega)
  have e4 := prod_bd (show 0 ≤ 10000 - x by omega) (show 10000 - x ≤ 10000 by omega) (show 0 ≤ d2 by omega) hd2
  have u1b := upQ_bd (b := 10000) (by omega) e1.1
  rw [hu1.out] at u1b
  have v1b : 0 ≤ v1 ∧ v1 ≤ y * d2 := by rw [← hv1.out]; exact ⟨Int.ediv_nonneg e2.1 (by omega), Int.ediv_le_self _ e2.1⟩
  have k1 := Lib.hid fun W => share_any d1 d2 x y 10000 u1 v1 W e1.1 e2.1 (by omega) (by omega) (by omega) hu1 hv1
  have k5 := Lib.hid fun W => share_any d1 d2 (10000 - y) (10000 - x) 10000 u2 v2 W e3.1 e4.1 (by omega) (by omega) (by omega) hu2 hv2
  have k4 := Lib.hid fun W => know_ok (10000 - y) (10000 - x) W (by omega)
  have k2 := Lib.hid fun W => know_ok u1 v1 W q1
  have k3 := Lib.hid fun W => plus_ok g1 g2 u1 v1 W (by omega) (by omega) (by omega)
  have k6 := Lib.hid fun W => know_ok u2 v2 W q2
  clear e1 e2 e3 e4 hu1 hu2 hv1 hv2
  go_enter Try.func72, Try.ntmps72
  go_upto_region 1 with fail
  refine wp_world (fun W => Below w.heap.size w W ∧ Blk W w.heap.size 75 #[.int .i64 d1, .int .i64 d2, .int .i64 w1, .int .i64 w2, .int .i64 p1, .int .i64 p2, .int .i64 t1, .int .i64 t2, .int .i64 g1, .int .i64 g2, .int .i64 r1, .int .i64 r2, .int .i64 s1, .int .i64 s2] ∧ Blk W (w.heap.size + 1) 73 #[.int .i64 x, .int .i64 y] ∧ Blk W (w.heap.size + 1 + 1) 75 #[.int .i64 0, .int .i64 0, .int .i64 0, .int .i64 0, .int .i64 0, .int .i64 0, .int .i64 0, .int .i64 0, .int .i64 0, .int .i64 0, .int .i64 0, .int .i64 0, .int .i64 0, .int .i64 0])
    ⟨(((Below.refl _ _).alloc (Nat.le_refl _) _).alloc (by simp) _).alloc (by simp; omega) _, ((Blk.new _ _ _).alloc _).alloc _, (blk_at (by simp)).alloc _, blk_at (by simp)⟩ ?_
  rintro W0 ⟨hB0, b0, b1, b2⟩
  obtain ⟨c0, c1, c2, c3, c4, c5, c6, c7, c8, c9, c10, c11, c12, c13⟩ := b0.facts14
  obtain ⟨e0, e1, _, _⟩ := b1.facts2
  have c0' := fun d os => cell_regrown c0 d os
  have c1' := fun d os => cell_regrown c1 d os
  have c8' := fun d os => cell_regrown c8 d os
  have c9' := fun d os => cell_regrown c9 d os
  have e0' := fun d os => cell_regrown e0 d os
  have e1' := fun d os => cell_regrown e1 d os
  refine wp_region_below_tail 11 (by kernel_rfl) (by kernel_rfl) ?_
  simp only [List.take_succ_cons, List.take_zero, List.drop_succ_cons, List.drop_zero]
  repeat (quiet_step (fail))
  quiet_step (first | (go_at_call 73; exact quiet_call (fun W1 _ => k1.out W1)))
  repeat (quiet_step (fail))
  quiet_step (first | (go_at_call 66; exact quiet_call (fun W1 _ => k2.out W1)))
  repeat (quiet_step (fail))
  quiet_step (first | (go_at_call 71; exact quiet_call (fun W1 _ => k3.out W1)))
  repeat (quiet_step (fail))
  refine wpQuiet_nil ?_
  intro _ hw'
  obtain ⟨⟨dq, osq⟩, hw''⟩ := hw'
  subst hw''
  have hb := below_regrown W0 dq osq
  replace b0 := b0.below hb b0.lt
  replace b1 := b1.below hb b1.lt
  replace b2 := b2.below hb b2.lt
  have hB := hB0.trans (hb.mono hB0.size)
  clear hb hB0 e0 e1 e0' e1' c0 c1 c2 c3 c4 c5 c6 c7 c8 c9 c10 c11 c12 c13 c0' c1' c8' c9' k1 k2 k3
  generalize grow (redrawn W0 dq) osq = W1 at *
  obtain ⟨c0, c1, c2, c3, c4, c5, c6, c7, c8, c9, c10, c11, c12, c13⟩ := b0.facts14
  obtain ⟨f0, f1, f2, f3, f4, f5, f6, f7, f8, f9, f10, f11, f12, f13⟩ := b0.frozen14
  go_upto_region 2 with fail
  refine wp_world (fun W => Below w.heap.size w W ∧ Blk W w.heap.size 75 #[.int .i64 d1, .int .i64 d2, .int .i64 w1, .int .i64 w2, .int .i64 p1, .int .i64 p2, .int .i64 t1, .int .i64 t2, .int .i64 (g1 + u1), .int .i64 (g2 + v1), .int .i64 r1, .int .i64 r2, .int .i64 s1, .int .i64 s2] ∧ Blk W (w.heap.size + 1) 73 #[.int .i64 x, .int .i64 y] ∧ Blk W (w.heap.size + 1 + 1) 75 #[.int .i64 0, .int .i64 0, .int .i64 0, .int .i64 0, .int .i64 0, .int .i64 0, .int .i64 0, .int .i64 0, .int .i64 0, .int .i64 0, .int .i64 0, .int .i64 0, .int .i64 0, .int .i64 0])
    ⟨belowp hB (by omega), b0.pair4, b1.farp (by omega), b2.farp (by omega)⟩ ?_
  clear hB b0 b1 b2 c0 c1 c2 c3 c4 c5 c6 c7 c8 c9 c10 c11 c12 c13 f0 f1 f2 f3 f4 f5 f6 f7 f8 f9 f10 f11 f12 f13
  rintro W2 ⟨hB, b0, b1, b2⟩
  obtain ⟨e0, e1, _, _⟩ := b1.facts2
  go_wp2_with fail
  refine (k4.out _).mono ?_
  rintro e W3 ⟨rfl, hb⟩
  replace b0 := b0.below hb b0.lt
  replace b1 := b1.below hb b1.lt
  replace b2 := b2.below hb b2.lt
  replace hB := hB.trans (hb.mono hB.size)
  clear hb
  clear e0 e1 k4
  go_upto_region 3 with fail
  refine wp_world (fun W => Below w.heap.size w W ∧ Blk W w.heap.size 75 #[.int .i64 d1, .int .i64 d2, .int .i64 w1, .int .i64 w2, .int .i64 p1, .int .i64 p2, .int .i64 t1, .int .i64 t2, .int .i64 (g1 + u1), .int .i64 (g2 + v1), .int .i64 r1, .int .i64 r2, .int .i64 s1, .int .i64 s2] ∧ Blk W (w.heap.size + 1 + 1) 75 #[.int .i64 0, .int .i64 0, .int .i64 0, .int .i64 0, .int .i64 0, .int .i64 0, .int .i64 0, .int .i64 0, .int .i64 0, .int .i64 0, .int .i64 0, .int .i64 0, .int .i64 0, .int .i64 0] ∧ Blk W W3.heap.size 73 #[.int .i64 (10000 - y), .int .i64 (10000 - x)])
    ⟨hB.alloc hB.size _, b0.alloc _, b2.alloc _, Blk.new _ _ _⟩ ?_
  have n3 := b2.lt
  clear hB b0 b1 b2
  generalize W3.heap.size = g5 at *
  rintro W4 ⟨hB, b0, b2, b5⟩
  obtain ⟨c0, c1, c2, c3, c4, c5, c6, c7, c8, c9, c10, c11, c12, c13⟩ := b0.facts14
  obtain ⟨e0, e1, _, _⟩ := b5.facts2
  go_wp2_with fail
  refine (k5.out _).mono ?_
  rintro e W5 ⟨rfl, hb⟩
  replace b0 := b0.below hb b0.lt
  replace b2 := b2.below hb b2.lt
  replace hB := hB.trans (hb.mono hB.size)
  clear hb
  clear c0 c1 c2 c3 c4 c5 c6 c7 c8 c9 c10 c11 c12 c13 e0 e1 k5 b5
  go_wp2_with fail
  refine (k6.out _).mono ?_
  rintro e W6 ⟨rfl, hb⟩
  replace b0 := b0.below hb b0.lt
  replace b2 := b2.below hb b2.lt
  replace hB := hB.trans (hb.mono hB.size)
  clear hb
  obtain ⟨c0, c1, c2, c3, c4, c5, c6, c7, c8, c9, c10, c11, c12, c13⟩ := b0.facts14
  obtain ⟨f0, f1, f2, f3, f4, f5, f6, f7, f8, f9, f10, f11, f12, f13⟩ := b0.frozen14
  go_upto_region 4 with fail
  refine wp_world (fun W => Below w.heap.size w W ∧ Blk W w.heap.size 75 #[.int .i64 u2, .int .i64 v2, .int .i64 w1, .int .i64 w2, .int .i64 p1, .int .i64 p2, .int .i64 t1, .int .i64 t2, .int .i64 (g1 + u1), .int .i64 (g2 + v1), .int .i64 r1, .int .i64 r2, .int .i64 s1, .int .i64 s2] ∧ Blk W (w.heap.size + 1 + 1) 75 #[.int .i64 0, .int .i64 0, .int .i64 0, .int .i64 0, .int .i64 0, .int .i64 0, .int .i64 0, .int .i64 0, .int .i64 0, .int .i64 0, .int .i64 0, .int .i64 0, .int .i64 0, .int .i64 0])
    ⟨belowp hB (by omega), b0.pair0, b2.farp (by omega)⟩ ?_
  clear hB b0 b2 c0 c1 c2 c3 c4 c5 c6 c7 c8 c9 c10 c11 c12 c13 f0 f1 f2 f3 f4 f5 f6 f7 f8 f9 f10 f11 f12 f13
  rintro W7 ⟨hB, b0, b2⟩
  obtain ⟨c0, c1, c2, c3, c4, c5, c6, c7, c8, c9, c10, c11, c12, c13⟩ := b0.facts14
  obtain ⟨f0, f1, f2, f3, f4, f5, f6, f7, f8, f9, f10, f11, f12, f13⟩ := b2.frozen14
  obtain ⟨z0, z1, z2, z3, z4, z5, z6, z7, z8, z9, z10, z11, z12, z13⟩ := b2.facts14
  have n2 := b2.lt
  go_upto_region 4 with fail
  go_wp2
  refine ret_world (fun W => Below w.heap.size w W ∧ Blk W (w.heap.size + 1 + 1) 75 #[.int .i64 u2, .int .i64 v2, .int .i64 w1, .int .i64 w2, .int .i64 p1, .int .i64 p2, .int .i64 t1, .int .i64 t2, .int .i64 (g1 + u1), .int .i64 (g2 + v1), .int .i64 r1, .int .i64 r2, .int .i64 s1, .int .i64 s2]) ⟨below14 hB (by omega), b2.sets14⟩ ?_
  clear hB b0 b2 c0 c1 c2 c3 c4 c5 c6 c7 c8 c9 c10 c11 c12 c13 f0 f1 f2 f3 f4 f5 f6 f7 f8 f9 f10 f11 f12 f13 z0 z1 z2 z3 z4 z5 z6 z7 z8 z9 z10 z11 z12 z13
  rintro W ⟨hB, b2⟩
  obtain ⟨z0, z1, z2, z3, z4, z5, z6, z7, z8, z9, z10, z11, z12, z13⟩ := b2.facts14
  exact bodyPost_ret (v := .agg #[.int .i64 u2, .int .i64 v2, .int .i64 w1, .int .i64 w2, .int .i64 p1, .int .i64 p2, .int .i64 t1, .int .i64 t2, .int .i64 (g1 + u1), .int .i64 (g2 + v1), .int .i64 r1, .int .i64 r2, .int .i64 s1, .int .i64 s2]) (by simp [results, Try.results72, go_sem, z0, z1, z2, z3, z4, z5, z6, z7, z8, z9, z10, z11, z12, z13]) rfl ⟨rfl, hB⟩

set_option maxHeartbeats 1000000 in
set_option maxRecDepth 100000 in
theorem sprout_bad2 (d1 d2 w1 w2 p1 p2 t1 t2 g1 g2 r1 r2 s1 s2 x y u1 v1 u2 v2 : Int) (w : World) (hd : SpOk d1 d2 1099511627776) (hw : SpOk w1 w2 1099511627776) (hp : SpOk p1 p2 1099511627776) (ht : SpOk t1 t2 1099511627776) (hg : SpOk g1 g2 1099511627776) (hr : SpOk r1 r2 1099511627776) (hs : SpOk s1 s2 1099511627776) (h : SpOk x y 10000) (hu1 : Hid (upQ (x * d1) 10000 = u1)) (hv1 : Hid (y * d2 / 10000 = v1)) (hu2 : Hid (upQ ((10000 - y) * d1) 10000 = u2)) (hv2 : Hid ((10000 - x) * d2 / 10000 = v2)) (q1 : u1 ≤ v1) (q2 : v2 < u2) :
    Calls Try.prog 72 #[.agg #[.int .i64 d1, .int .i64 d2, .int .i64 w1, .int .i64 w2, .int .i64 p1, .int .i64 p2, .int .i64 t1, .int .i64 t2, .int .i64 g1, .int .i64 g2, .int .i64 r1, .int .i64 r2, .int .i64 s1, .int .i64 s2], .agg #[.int .i64 x, .int .i64 y]] w fun e w' => e = .panicked stop ∧ Below w.heap.size w w' := by
  obtain ⟨hd0, hd1, hd2⟩ := hd
  obtain ⟨hw0, hw1, hw2⟩ := hw
  obtain ⟨hp0, hp1, hp2⟩ := hp
  obtain ⟨ht0, ht1, ht2⟩ := ht
  obtain ⟨hg0, hg1, hg2⟩ := hg
  obtain ⟨hr0, hr1, hr2⟩ := hr
  obtain ⟨hs0, hs1, hs2⟩ := hs
  obtain ⟨hx0, hx1, hx2⟩ := h
  have e1 := prod_bd hx0 (show x ≤ 10000 by omega) hd0 (show d1 ≤ 1099511627776 by omega)
  have e2 := prod_bd (show 0 ≤ y by omega) hx2 (show 0 ≤ d2 by omega) hd2
  have e3 := prod_bd (show 0 ≤ 10000 - y by omega) (show 10000 - y ≤ 10000 by omega) hd0 (show d1 ≤ 1099511627776 by omega)
  have e4 := prod_bd (show 0 ≤ 10000 - x by omega) (show 10000 - x ≤ 10000 by omega) (show 0 ≤ d2 by omega) hd2
  have u1b := upQ_bd (b := 10000) (by omega) e1.1
  rw [hu1.out] at u1b
  have v1b : 0 ≤ v1 ∧ v1 ≤ y * d2 := by rw [← hv1.out]; exact ⟨Int.ediv_nonneg e2.1 (by omega), Int.ediv_le_self _ e2.1⟩
  have k1 := Lib.hid fun W => share_any d1 d2 x y 10000 u1 v1 W e1.1 e2.1 (by omega) (by omega) (by omega) hu1 hv1
  have k5 := Lib.hid fun W => share_any d1 d2 (10000 - y) (10000 - x) 10000 u2 v2 W e3.1 e4.1 (by omega) (by omega) (by omega) hu2 hv2
  have k4 := Lib.hid fun W => know_ok (10000 - y) (10000 - x) W (by omega)
  have k2 := Lib.hid fun W => know_ok u1 v1 W q1
  have k3 := Lib.hid fun W => plus_ok g1 g2 u1 v1 W (by omega) (by omega) (by omega)
  have k6 := Lib.hid fun W => know_bad u2 v2 W q2
  clear e1 e2 e3 e4 hu1 hu2 hv1 hv2
  go_enter Try.func72, Try.ntmps72
  go_upto_region 1 with fail
  refine wp_world (fun W => Below w.heap.size w W ∧ Blk W w.heap.size 75 #[.int .i64 d1, .int .i64 d2, .int .i64 w1, .int .i64 w2, .int .i64 p1, .int .i64 p2, .int .i64 t1, .int .i64 t2, .int .i64 g1, .int .i64 g2, .int .i64 r1, .int .i64 r2, .int .i64 s1, .int .i64 s2] ∧ Blk W (w.heap.size + 1) 73 #[.int .i64 x, .int .i64 y] ∧ Blk W (w.heap.size + 1 + 1) 75 #[.int .i64 0, .int .i64 0, .int .i64 0, .int .i64 0, .int .i64 0, .int .i64 0, .int .i64 0, .int .i64 0, .int .i64 0, .int .i64 0, .int .i64 0, .int .i64 0, .int .i64 0, .int .i64 0])
    ⟨(((Below.refl _ _).alloc (Nat.le_refl _) _).alloc (by simp) _).alloc (by simp; omega) _, ((Blk.new _ _ _).alloc _).alloc _, (blk_at (by simp)).alloc _, blk_at (by simp)⟩ ?_
  rintro W0 ⟨hB0, b0, b1, b2⟩
  obtain ⟨c0, c1, c2, c3, c4, c5, c6, c7, c8, c9, c10, c11, c12, c13⟩ := b0.facts14
  obtain ⟨e0, e1, _, _⟩ := b1.facts2
  have c0' := fun d os => cell_regrown c0 d os
  have c1' := fun d os => cell_regrown c1 d os
  have c8' := fun d os => cell_regrown c8 d os
  have c9' := fun d os => cell_regrown c9 d os
  have e0' := fun d os => cell_regrown e0 d os
  have e1' := fun d os => cell_regrown e1 d os
  refine wp_region_below_tail 11 (by kernel_rfl) (by kernel_rfl) ?_
  simp only [List.take_succ_cons, List.take_zero, List.drop_succ_cons, List.drop_zero]
  repeat (quiet_step (fail))
  quiet_step (first | (go_at_call 73; exact quiet_call (fun W1 _ => k1.out W1)))
  repeat (quiet_step (fail))
  quiet_step (first | (go_at_call 66; exact quiet_call (fun W1 _ => k2.out W1)))
  repeat (quiet_step (fail))
  quiet_step (first | (go_at_call 71; exact quiet_call (fun W1 _ => k3.out W1)))
  repeat (quiet_step (fail))
  refine wpQuiet_nil ?_
  intro _ hw'
  obtain ⟨⟨dq, osq⟩, hw''⟩ := hw'
  subst hw''
  have hb := below_regrown W0 dq osq
  replace b0 := b0.below hb b0.lt
  replace b1 := b1.below hb b1.lt
  replace b2 := b2.below hb b2.lt
  have hB := hB0.trans (hb.mono hB0.size)
  clear hb hB0 e0 e1 e0' e1' c0 c1 c2 c3 c4 c5 c6 c7 c8 c9 c10 c11 c12 c13 c0' c1' c8' c9' k1 k2 k3
  generalize grow (redrawn W0 dq) osq = W1 at *
  obtain ⟨c0, c1, c2, c3, c4, c5, c6, c7, c8, c9, c10, c11, c12, c13⟩ := b0.facts14
  obtain ⟨f0, f1, f2, f3, f4, f5, f6, f7, f8, f9, f10, f11, f12, f13⟩ := b0.frozen14
  go_upto_region 2 with fail
  refine wp_world (fun W => Below w.heap.size w W ∧ Blk W w.heap.size 75 #[.int .i64 d1, .int .i64 d2, .int .i64 w1, .int .i64 w2, .int .i64 p1, .int .i64 p2, .int .i64 t1, .int .i64 t2, .int .i64 (g1 + u1), .int .i64 (g2 + v1), .int .i64 r1, .int .i64 r2, .int .i64 s1, .int .i64 s2] ∧ Blk W (w.heap.size + 1) 73 #[.int .i64 x, .int .i64 y] ∧ Blk W (w.heap.size + 1 + 1) 75 #[.int .i64 0, .int .i64 0, .int .i64 0, .int .i64 0, .int .i64 0, .int .i64 0, .int .i64 0, .int .i64 0, .int .i64 0, .int .i64 0, .int .i64 0, .int .i64 0, .int .i64 0, .int .i64 0])
    ⟨belowp hB (by omega), b0.pair4, b1.farp (by omega), b2.farp (by omega)⟩ ?_
  clear hB b0 b1 b2 c0 c1 c2 c3 c4 c5 c6 c7 c8 c9 c10 c11 c12 c13 f0 f1 f2 f3 f4 f5 f6 f7 f8 f9 f10 f11 f12 f13
  rintro W2 ⟨hB, b0, b1, b2⟩
  obtain ⟨e0, e1, _, _⟩ := b1.facts2
  go_wp2_with fail
  refine (k4.out _).mono ?_
  rintro e W3 ⟨rfl, hb⟩
  replace b0 := b0.below hb b0.lt
  replace b1 := b1.below hb b1.lt
  replace b2 := b2.below hb b2.lt
  replace hB := hB.trans (hb.mono hB.size)
  clear hb
  clear e0 e1 k4
  go_upto_region 3 with fail
  refine wp_world (fun W => Below w.heap.size w W ∧ Blk W w.heap.size 75 #[.int .i64 d1, .int .i64 d2, .int .i64 w1, .int .i64 w2, .int .i64 p1, .int .i64 p2, .int .i64 t1, .int .i64 t2, .int .i64 (g1 + u1), .int .i64 (g2 + v1), .int .i64 r1, .int .i64 r2, .int .i64 s1, .int .i64 s2] ∧ Blk W (w.heap.size + 1 + 1) 75 #[.int .i64 0, .int .i64 0, .int .i64 0, .int .i64 0, .int .i64 0, .int .i64 0, .int .i64 0, .int .i64 0, .int .i64 0, .int .i64 0, .int .i64 0, .int .i64 0, .int .i64 0, .int .i64 0] ∧ Blk W W3.heap.size 73 #[.int .i64 (10000 - y), .int .i64 (10000 - x)])
    ⟨hB.alloc hB.size _, b0.alloc _, b2.alloc _, Blk.new _ _ _⟩ ?_
  have n3 := b2.lt
  clear hB b0 b1 b2
  generalize W3.heap.size = g5 at *
  rintro W4 ⟨hB, b0, b2, b5⟩
  obtain ⟨c0, c1, c2, c3, c4, c5, c6, c7, c8, c9, c10, c11, c12, c13⟩ := b0.facts14
  obtain ⟨e0, e1, _, _⟩ := b5.facts2
  go_wp2_with fail
  refine (k5.out _).mono ?_
  rintro e W5 ⟨rfl, hb⟩
  replace b0 := b0.below hb b0.lt
  replace b2 := b2.below hb b2.lt
  replace hB := hB.trans (hb.mono hB.size)
  clear hb
  clear c0 c1 c2 c3 c4 c5 c6 c7 c8 c9 c10 c11 c12 c13 e0 e1 k5 b5
  go_wp2_with fail
  refine (k6.out _).mono ?_
  rintro e W6 ⟨rfl, hb⟩
  go_wp2_with fail
  exact ⟨rfl, rfl, hB.trans (hb.mono hB.size)⟩

set_option maxHeartbeats 1000000 in
set_option maxRecDepth 100000 in
theorem sprout_bad1 (d1 d2 w1 w2 p1 p2 t1 t2 g1 g2 r1 r2 s1 s2 x y u1 v1 u2 v2 : Int) (w : World) (hd : SpOk d1 d2 1099511627776) (hw : SpOk w1 w2 1099511627776) (hp : SpOk p1 p2 1099511627776) (ht : SpOk t1 t2 1099511627776) (hg : SpOk g1 g2 1099511627776) (hr : SpOk r1 r2 1099511627776) (hs : SpOk s1 s2 1099511627776) (h : SpOk x y 10000) (hu1 : Hid (upQ (x * d1) 10000 = u1)) (hv1 : Hid (y * d2 / 10000 = v1)) (hu2 : Hid (upQ ((10000 - y) * d1) 10000 = u2)) (hv2 : Hid ((10000 - x) * d2 / 10000 = v2)) (q1 : v1 < u1) :
    Calls Try.prog 72 #[.agg #[.int .i64 d1, .int .i64 d2, .int .i64 w1, .int .i64 w2, .int .i64 p1, .int .i64 p2, .int .i64 t1, .int .i64 t2, .int .i64 g1, .int .i64 g2, .int .i64 r1, .int .i64 r2, .int .i64 s1, .int .i64 s2], .agg #[.int .i64 x, .int .i64 y]] w fun e w' => e = .panicked stop ∧ Below w.heap.size w w' := by
  obtain ⟨hd0, hd1, hd2⟩ := hd
  obtain ⟨hw0, hw1, hw2⟩ := hw
  obtain ⟨hp0, hp1, hp2⟩ := hp
  obtain ⟨ht0, ht1, ht2⟩ := ht
  obtain ⟨hg0, hg1, hg2⟩ := hg
  obtain ⟨hr0, hr1, hr2⟩ := hr
  obtain ⟨hs0, hs1, hs2⟩ := hs
  obtain ⟨hx0, hx1, hx2⟩ := h
  have e1 := prod_bd hx0 (show x ≤ 10000 by omega) hd0 (show d1 ≤ 1099511627776 by omega)
  have e2 := prod_bd (show 0 ≤ y by omega) hx2 (show 0 ≤ d2 by omega) hd2
  have e3 := prod_bd (show 0 ≤ 10000 - y by omega) (show 10000 - y ≤ 10000 by omega) hd0 (show d1 ≤ 1099511627776 by omega)
  have e4 := prod_bd (show 0 ≤ 10000 - x by omega) (show 10000 - x ≤ 10000 by omega) (show 0 ≤ d2 by omega) hd2
  have u1b := upQ_bd (b := 10000) (by omega) e1.1
  rw [hu1.out] at u1b
  have v1b : 0 ≤ v1 ∧ v1 ≤ y * d2 := by rw [← hv1.out]; exact ⟨Int.ediv_nonneg e2.1 (by omega), Int.ediv_le_self _ e2.1⟩
  have k1 := Lib.hid fun W => share_any d1 d2 x y 10000 u1 v1 W e1.1 e2.1 (by omega) (by omega) (by omega) hu1 hv1
  have k5 := Lib.hid fun W => share_any d1 d2 (10000 - y) (10000 - x) 10000 u2 v2 W e3.1 e4.1 (by omega) (by omega) (by omega) hu2 hv2
  have k4 := Lib.hid fun W => know_ok (10000 - y) (10000 - x) W (by omega)
  have k2 := Lib.hid fun W => know_bad u1 v1 W q1
  have k3 := Lib.hid fun W => plus_ok g1 g2 0 0 W (by omega) (by omega) (by omega)
  clear e1 e2 e3 e4 hu1 hu2 hv1 hv2 k4 k5
  go_enter Try.func72, Try.ntmps72
  go_upto_region 1 with fail
  refine wp_world (fun W => Below w.heap.size w W ∧ Blk W w.heap.size 75 #[.int .i64 d1, .int .i64 d2, .int .i64 w1, .int .i64 w2, .int .i64 p1, .int .i64 p2, .int .i64 t1, .int .i64 t2, .int .i64 g1, .int .i64 g2, .int .i64 r1, .int .i64 r2, .int .i64 s1, .int .i64 s2] ∧ Blk W (w.heap.size + 1) 73 #[.int .i64 x, .int .i64 y] ∧ Blk W (w.heap.size + 1 + 1) 75 #[.int .i64 0, .int .i64 0, .int .i64 0, .int .i64 0, .int .i64 0, .int .i64 0, .int .i64 0, .int .i64 0, .int .i64 0, .int .i64 0, .int .i64 0, .int .i64 0, .int .i64 0, .int .i64 0])
    ⟨(((Below.refl _ _).alloc (Nat.le_refl _) _).alloc (by simp) _).alloc (by simp; omega) _, ((Blk.new _ _ _).alloc _).alloc _, (blk_at (by simp)).alloc _, blk_at (by simp)⟩ ?_
  rintro W0 ⟨hB0, b0, b1, b2⟩
  obtain ⟨c0, c1, c2, c3, c4, c5, c6, c7, c8, c9, c10, c11, c12, c13⟩ := b0.facts14
  obtain ⟨e0, e1, _, _⟩ := b1.facts2
  have c0' := fun d os => cell_regrown c0 d os
  have c1' := fun d os => cell_regrown c1 d os
  have c8' := fun d os => cell_regrown c8 d os
  have c9' := fun d os => cell_regrown c9 d os
  have e0' := fun d os => cell_regrown e0 d os
  have e1' := fun d os => cell_regrown e1 d os
  refine wp_region_die_below 11 8 stop (by kernel_rfl) (by kernel_rfl) (by omega) (fun a' w' h1 h2 => ⟨h1, rfl, hB0.trans (h2.mono hB0.size)⟩) ?_
  simp only [List.take_succ_cons, List.take_zero]
  repeat (refine wpDie_step (by rfl) (fun K hK => ?_); go_simp; first | (refine hK _ ?_; clear hK K) | (apply Exists.intro; refine ⟨fun _ => ?_, hK _ ?_⟩; (fail); clear hK K))
  (refine wpDie_step (by rfl) (fun K hK => ?_); go_simp; first | (refine hK _ ?_; clear hK K) | (apply Exists.intro; refine ⟨fun _ => ?_, hK _ ?_⟩; (first | (go_at_call 73; exact calm_call (fun W1 _ => k1.out W1))); clear hK K))
  repeat (refine wpDie_step (by rfl) (fun K hK => ?_); go_simp; first | (refine hK _ ?_; clear hK K) | (apply Exists.intro; refine ⟨fun _ => ?_, hK _ ?_⟩; (fail); clear hK K))
  refine wpDie_here (.agg #[.int .i64 0, .int .i64 0]) (by rfl) (fun w' hw' => ?_) ?_
  · obtain ⟨⟨dq, osq⟩, hw''⟩ := hw'
    subst hw''
    refine ⟨_, _, ?_, die_call (fun W1 _ => k2.out W1)⟩
    first | rfl | simp [go_sem]
  repeat (refine wpDie_step (by rfl) (fun K hK => ?_); go_simp; first | (refine hK _ ?_; clear hK K) | (apply Exists.intro; refine ⟨fun _ => ?_, hK _ ?_⟩; (fail); clear hK K))
  (refine wpDie_step (by rfl) (fun K hK => ?_); go_simp; first | (refine hK _ ?_; clear hK K) | (apply Exists.intro; refine ⟨fun _ => ?_, hK _ ?_⟩; (first | (go_at_call 71; exact calm_call (fun W1 _ => k3.out W1))); clear hK K))
  repeat (refine wpDie_step (by rfl) (fun K hK => ?_); go_simp; first | (refine hK _ ?_; clear hK K) | (apply Exists.intro; refine ⟨fun _ => ?_, hK _ ?_⟩; (fail); clear hK K))
  exact wpDie_nil trivial

end Go.Proofs.Ytdadpfgcjffclaa
