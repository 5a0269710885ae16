/- What the document's own package says of a step. -/
import Derived.Test.YtdadpfgcjffclaaRefDust
import Derived.Test.YtdadpfgcjffclaaPairs
import Derived.Test.YtdadpfgcjffclaaGrain
namespace Go.Proofs.Ytdadpfgcjffclaa
open Go.RowKit Go.Sort
attribute [local go_sem] Oper.calm Oper.calmAt Oper.calmUpon

set_option maxHeartbeats 2000000 in
set_option maxRecDepth 100000 in
theorem beh_peat (d1 d2 w1 w2 p1 p2 x y u v : Int) (w : World) (hd : SpOk d1 d2 1099511627776) (hw : SpOk w1 w2 1099511627776) (hp : SpOk p1 p2 1099511627776) (h : SpOk x y 1048576) (hu : Hid (upQ (x * d1) 1000 = u)) (hv : Hid (y * d2 / 1000 = v)) :
    Calls Try.prog 38 #[.agg #[.int .i64 d1, .int .i64 d2, .int .i64 w1, .int .i64 w2, .int .i64 p1, .int .i64 p2], .agg #[.int .i64 3, .int .i64 x, .int .i64 y]] w fun e w' => e = .returned (.tuple #[.agg #[.int .i64 d1, .int .i64 d2, .int .i64 w1, .int .i64 w2, .int .i64 (p1 + u), .int .i64 (p2 + v)], .agg #[.int .i64 0, .int .i64 0, .int .i64 0, .int .i64 0, .int .i64 0, .int .i64 0, .int .i64 0, .int .i64 0]]) ∧ Below w.heap.size w w' := by
  obtain ⟨hd0, hd1, hd2⟩ := hd
  obtain ⟨hw0, hw1, hw2⟩ := hw
  obtain ⟨hp0, hp1, hp2⟩ := hp
  obtain ⟨hx0, hx1, hx2⟩ := h
  have q1 := prod_bd hx0 (show x ≤ 1048576 by omega) hd0 (show d1 ≤ 1099511627776 by omega)
  have q2 := prod_bd (show 0 ≤ y by omega) hx2 (show 0 ≤ d2 by omega) hd2
  have ub := upQ_bd (b := 1000) (by omega) q1.1
  rw [hu.out] at ub
  have vb : 0 ≤ v ∧ v ≤ y * d2 := by rw [← hv.out]; exact ⟨Int.ediv_nonneg q2.1 (by omega), Int.ediv_le_self _ q2.1⟩
  have k3 := Lib.hid fun W => refup_any (x * d1) 1000 u W q1.1 (by omega) (by omega) hu
  have k4 := Lib.hid fun W => refdown_any (y * d2) 1000 v W q2.1 (by omega) (by omega) hv
  have r3 : IntKind.i64.wrap (x * d1) = x * d1 := IntWalk.i64_in _ (by omega)
  have r4 : IntKind.i64.wrap (y * d2) = y * d2 := IntWalk.i64_in _ (by omega)
  have r5 : IntKind.i64.wrap (p1 + u) = p1 + u := IntWalk.i64_in _ (by omega)
  have r6 : IntKind.i64.wrap (p2 + v) = p2 + v := IntWalk.i64_in _ (by omega)
  clear q1 q2 ub vb hu hv
  go_enter Try.func38, Try.ntmps38
  go_upto_region 14 with fail
  refine wp_world (fun W => Below w.heap.size w W ∧ Blk W (w.heap.size) 25 #[.int .i64 d1, .int .i64 d2, .int .i64 w1, .int .i64 w2, .int .i64 p1, .int .i64 p2] ∧ Blk W (w.heap.size + 1) 54 #[.int .i64 3, .int .i64 x, .int .i64 y] ∧ Blk W (w.heap.size + 1 + 1) 25 #[.int .i64 0, .int .i64 0, .int .i64 0, .int .i64 0, .int .i64 0, .int .i64 0] ∧ Blk W (w.heap.size + 1 + 1 + 1) 29 #[.int .i64 0, .int .i64 0, .int .i64 0, .int .i64 0, .int .i64 0, .int .i64 0, .int .i64 0, .int .i64 0] ∧ Blk W (w.heap.size + 1 + 1 + 1 + 1) 25 #[.int .i64 d1, .int .i64 d2, .int .i64 w1, .int .i64 w2, .int .i64 p1, .int .i64 p2] ∧ Blk W (w.heap.size + 1 + 1 + 1 + 1 + 1) 29 #[.int .i64 0, .int .i64 0, .int .i64 0, .int .i64 0, .int .i64 0, .int .i64 0, .int .i64 0, .int .i64 0])
    ⟨((((((Below.refl _ _).alloc (Nat.le_refl _) _).alloc (by simp; try omega) _).alloc (by simp; try omega) _).alloc (by simp; try omega) _).alloc (by simp; try omega) _).alloc (by simp; try omega) _, (((((Blk.new _ _ _).alloc _).alloc _).alloc _).alloc _).alloc _, ((((blk_at (by simp)).alloc _).alloc _).alloc _).alloc _, (((blk_at (by simp)).alloc _).alloc _).alloc _, ((blk_at (by simp)).alloc _).alloc _, (blk_at (by simp)).alloc _, blk_at (by simp)⟩ ?_
  rintro W0 ⟨hB, b0, b1, b2, b3, b4, b5⟩
  obtain ⟨x0, x1, x2, x3, x4, x5⟩ := b0.facts6
  obtain ⟨e0, e1, e2, _, _, _⟩ := b1.facts3
  obtain ⟨c0, c1, c2, c3, c4, c5⟩ := b4.facts6
  obtain ⟨f0, f1, f2, f3, f4, f5⟩ := b4.frozen6
  obtain ⟨y0, y1, y2, y3, y4, y5, y6, y7⟩ := b5.facts8
  obtain ⟨g0, g1, g2, g3, g4, g5, g6, g7⟩ := b5.frozen8
  have n5 := b5.lt
  have x0' := fun d os => cell_regrown x0 d os
  have x1' := fun d os => cell_regrown x1 d os
  have x2' := fun d os => cell_regrown x2 d os
  have x3' := fun d os => cell_regrown x3 d os
  have x4' := fun d os => cell_regrown x4 d os
  have x5' := fun d os => cell_regrown x5 d os
  have e0' := fun d os => cell_regrown e0 d os
  have e1' := fun d os => cell_regrown e1 d os
  have e2' := fun d os => cell_regrown e2 d os
  refine wp_region_below_tail 24 (by kernel_rfl) (by kernel_rfl) ?_
  simp only [List.take_succ_cons, List.take_zero, List.drop_succ_cons, List.drop_zero]
  repeat (quiet_step (fail))
  quiet_step (first | (go_at_call 43; exact quiet_call (fun W1 _ => k3.out W1)))
  repeat (quiet_step (fail))
  quiet_step (first | (go_at_call 42; exact quiet_call (fun W1 _ => k4.out W1)))
  repeat (quiet_step (fail))
  refine wpQuiet_nil ?_
  intro _ hw'
  obtain ⟨⟨dq, osq⟩, hw''⟩ := hw'
  subst hw''
  have hb := below_regrown W0 dq osq
  replace b0 := b0.below hb b0.lt
  replace b1 := b1.below hb b1.lt
  replace b2 := b2.below hb b2.lt
  replace b3 := b3.below hb b3.lt
  replace b4 := b4.below hb b4.lt
  replace b5 := b5.below hb b5.lt
  replace hB := hB.trans (hb.mono hB.size)
  clear hb x0 x1 x2 x3 x4 x5 e0 e1 e2 c0 c1 c2 c3 c4 c5 f0 f1 f2 f3 f4 f5 y0 y1 y2 y3 y4 y5 y6 y7 g0 g1 g2 g3 g4 g5 g6 g7 n5 x0' x1' x2' x3' x4' x5' e0' e1' e2'
  generalize grow (redrawn W0 dq) osq = W0 at *
  obtain ⟨x0, x1, x2, x3, x4, x5⟩ := b0.facts6
  obtain ⟨e0, e1, e2, _, _, _⟩ := b1.facts3
  obtain ⟨c0, c1, c2, c3, c4, c5⟩ := b4.facts6
  obtain ⟨f0, f1, f2, f3, f4, f5⟩ := b4.frozen6
  obtain ⟨y0, y1, y2, y3, y4, y5, y6, y7⟩ := b5.facts8
  obtain ⟨g0, g1, g2, g3, g4, g5, g6, g7⟩ := b5.frozen8
  have n5 := b5.lt
  go_upto_region 21 with fail
  refine wp_world (fun W => Below w.heap.size w W ∧ Blk W (w.heap.size) 25 #[.int .i64 d1, .int .i64 d2, .int .i64 w1, .int .i64 w2, .int .i64 p1, .int .i64 p2] ∧ Blk W (w.heap.size + 1) 54 #[.int .i64 3, .int .i64 x, .int .i64 y] ∧ Blk W (w.heap.size + 1 + 1) 25 #[.int .i64 0, .int .i64 0, .int .i64 0, .int .i64 0, .int .i64 0, .int .i64 0] ∧ Blk W (w.heap.size + 1 + 1 + 1) 29 #[.int .i64 0, .int .i64 0, .int .i64 0, .int .i64 0, .int .i64 0, .int .i64 0, .int .i64 0, .int .i64 0] ∧ Blk W (w.heap.size + 1 + 1 + 1 + 1) 25 #[.int .i64 d1, .int .i64 d2, .int .i64 w1, .int .i64 w2, .int .i64 (p1 + u), .int .i64 (p2 + v)] ∧ Blk W (w.heap.size + 1 + 1 + 1 + 1 + 1) 29 #[.int .i64 0, .int .i64 0, .int .i64 0, .int .i64 0, .int .i64 0, .int .i64 0, .int .i64 0, .int .i64 0])
    ⟨belowp hB (by omega), b0.farp (by omega), b1.farp (by omega), b2.farp (by omega), b3.farp (by omega), b4.pair6_2, b5.farp (by omega)⟩ ?_
  clear hB b0 b1 b2 b3 b4 b5 x0 x1 x2 x3 x4 x5 e0 e1 e2 c0 c1 c2 c3 c4 c5 f0 f1 f2 f3 f4 f5 y0 y1 y2 y3 y4 y5 y6 y7 g0 g1 g2 g3 g4 g5 g6 g7 n5
  rintro W0 ⟨hB, b0, b1, b2, b3, b4, b5⟩
  obtain ⟨c0, c1, c2, c3, c4, c5⟩ := b4.facts6
  obtain ⟨y0, y1, y2, y3, y4, y5, y6, y7⟩ := b5.facts8
  obtain ⟨x0, x1, x2, x3, x4, x5⟩ := b2.facts6
  obtain ⟨f0, f1, f2, f3, f4, f5⟩ := b2.frozen6
  obtain ⟨z0, z1, z2, z3, z4, z5, z6, z7⟩ := b3.facts8
  obtain ⟨g0, g1, g2, g3, g4, g5, g6, g7⟩ := b3.frozen8
  have n5 := b5.lt
  go_upto_region 21 with fail
  go_region
  all_goals
    go_wp2
    refine ret_world (fun W => Below w.heap.size w W ∧ Blk W (w.heap.size + 1 + 1) 25 #[.int .i64 d1, .int .i64 d2, .int .i64 w1, .int .i64 w2, .int .i64 (p1 + u), .int .i64 (p2 + v)] ∧ Blk W (w.heap.size + 1 + 1 + 1) 29 #[.int .i64 0, .int .i64 0, .int .i64 0, .int .i64 0, .int .i64 0, .int .i64 0, .int .i64 0, .int .i64 0])
      ⟨(below8 (below6 hB (by omega)) (by omega)).drew, (Blk.farsets8 (Blk.sets6 b2) (by omega)).drew, (Blk.sets8 (Blk.farsets6 b3 (by omega))).drew⟩ ?_
    clear hB b0 b1 b2 b3 b4 b5 x0 x1 x2 x3 x4 x5 f0 f1 f2 f3 f4 f5 c0 c1 c2 c3 c4 c5 y0 y1 y2 y3 y4 y5 y6 y7 z0 z1 z2 z3 z4 z5 z6 z7 g0 g1 g2 g3 g4 g5 g6 g7 n5
    rintro W ⟨hB, b2, b3⟩
    obtain ⟨x0, x1, x2, x3, x4, x5⟩ := b2.facts6
    obtain ⟨z0, z1, z2, z3, z4, z5, z6, z7⟩ := b3.facts8
    exact bodyPost_ret (v := .tuple #[.agg #[.int .i64 d1, .int .i64 d2, .int .i64 w1, .int .i64 w2, .int .i64 (p1 + u), .int .i64 (p2 + v)], .agg #[.int .i64 0, .int .i64 0, .int .i64 0, .int .i64 0, .int .i64 0, .int .i64 0, .int .i64 0, .int .i64 0]]) (by simp [results, Try.results38, go_sem, x0, x1, x2, x3, x4, x5, z0, z1, z2, z3, z4, z5, z6, z7]) rfl ⟨rfl, hB⟩

end Go.Proofs.Ytdadpfgcjffclaa
