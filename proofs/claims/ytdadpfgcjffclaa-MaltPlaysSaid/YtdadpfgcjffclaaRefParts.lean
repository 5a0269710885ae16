/- What the document's own package says of moisture and phenols. -/
import Derived.Test.YtdadpfgcjffclaaParts
import Derived.Test.YtdadpfgcjffclaaRefDust
import Derived.Test.YtdadpfgcjffclaaGrain
namespace Go.Proofs.Ytdadpfgcjffclaa
open Go.RowKit Go.Sort
attribute [local go_sem] Oper.calm Oper.calmAt Oper.calmUpon

set_option maxHeartbeats 4000000 in
set_option maxRecDepth 100000 in
theorem refMoisture_any (d1 d2 w1 w2 p1 p2 : Int) (w : World) :
    Calls Try.prog 15 #[.agg #[.int .i64 d1, .int .i64 d2, .int .i64 w1, .int .i64 w2, .int .i64 p1, .int .i64 p2]] w (SpanErr (MoistIs d1 d2 w1 w2 p1 p2) w) := by
  have hv := Lib.hid fun W => refMalt_any d1 d2 w1 w2 p1 p2 W
  go_enter Try.func15, Try.ntmps15
  go_wp2_with fail
  refine calls_world (fun W => Below w.heap.size w W ∧ Blk W w.heap.size 25 #[.int .i64 d1, .int .i64 d2, .int .i64 w1, .int .i64 w2, .int .i64 p1, .int .i64 p2] ∧ Blk W (w.heap.size + 1) 23 #[.int .i64 0, .int .i64 0])
    ⟨((Below.refl _ _).alloc (Nat.le_refl _) _).alloc (by simp) _, (Blk.new _ _ _).alloc _, blk_at (by simp)⟩ ?_
  rintro W0 ⟨hB0, b0, b1⟩
  refine (hv.out _).mono ?_
  rintro e W1 ⟨r, rfl, hr, hb⟩
  replace b0 := b0.below hb b0.lt
  replace b1 := b1.below hb b1.lt
  have hB := hB0.trans (hb.mono hB0.size)
  clear hb hB0 hv
  obtain ⟨x0, x1, x2, x3, x4, x5⟩ := b0.facts6
  obtain ⟨y0, y1, _, _⟩ := b1.facts2
  have n1 := b1.lt
  cases r with
  | false =>
    have hnf := Lib.hid (show MoistIs d1 d2 w1 w2 p1 p2 0 0 1 from .inl ⟨fun h => Bool.noConfusion (hr.2 h), rfl, rfl, rfl⟩)
    clear hr
    go_wp2_with fail
    refine bodyPost_ret (v := .tuple #[.agg #[.int .i64 0, .int .i64 0], .int .i64 1]) (by simp [results, Try.results15, go_sem, y0, y1]) rfl ?_
    exact ⟨_, _, 1, rfl, hnf.out, (hB.setCell (by simp only; omega) _).setCell (by simp only; omega) _⟩
  | true =>
    have hok := hr.1 rfl
    clear hr
    obtain ⟨⟨a1, a2, a3⟩, ⟨a4, a5, a6⟩, _⟩ := id hok
    by_cases c0 : d1 = 0 ∧ w1 = 0
    · have hnf := Lib.hid (show MoistIs d1 d2 w1 w2 p1 p2 0 0 4 from .inr ⟨hok, .inl ⟨c0.1, c0.2, rfl, rfl, rfl⟩⟩)
      have q1 : (d1 == 0) = true := by simpa using c0.1
      have q2 : (w1 == 0) = true := by simpa using c0.2
      clear hok c0
      go_wp2_with fail
      refine bodyPost_ret (v := .tuple #[.agg #[.int .i64 0, .int .i64 0], .int .i64 4]) (by simp [results, Try.results15, go_sem, y0, y1]) rfl ?_
      exact ⟨_, _, 4, rfl, hnf.out, (hB.setCell (by simp only; omega) _).setCell (by simp only; omega) _⟩
    · have hnf := Lib.hid fun (u v : Int) (hu : 10000 * w1 / (w1 + d2) = u) (hv : upQ (10000 * w2) (w2 + d1) = v) => (show MoistIs d1 d2 w1 w2 p1 p2 u v 0 from .inr ⟨hok, .inr ⟨c0, hu.symm, hv.symm, rfl⟩⟩)
      have g1 : 0 < w1 + d2 := by omega
      have g2 : 0 < w2 + d1 := by omega
      have r1 : IntKind.i64.wrap (10000 * w1) = 10000 * w1 := IntWalk.i64_in _ (by omega)
      have r2 : IntKind.i64.wrap (10000 * w2) = 10000 * w2 := IntWalk.i64_in _ (by omega)
      have r3 : IntKind.i64.wrap (w1 + d2) = w1 + d2 := IntWalk.i64_in _ (by omega)
      have r4 : IntKind.i64.wrap (w2 + d1) = w2 + d1 := IntWalk.i64_in _ (by omega)
      clear hok
      by_cases e1 : 0 < w1
      · obtain ⟨u, hu⟩ : ∃ u, 10000 * w1 / (w1 + d2) = u := ⟨_, rfl⟩
        obtain ⟨v, hv⟩ : ∃ v, upQ (10000 * w2) (w2 + d1) = v := ⟨_, rfl⟩
        replace hnf := Lib.hid (hnf.out u v hu hv)
        have hdn := Lib.hid fun W => refdown_any (10000 * w1) (w1 + d2) u W (by omega) g1 (by omega) (Lib.hid hu)
        have hup := Lib.hid fun W => refup_any (10000 * w2) (w2 + d1) v W (by omega) g2 (by omega) (Lib.hid hv)
        have t1 : decide (0 < w1) = true := by simpa using e1
        have t2 : decide (0 < w2) = true := by simp; omega
        have hcond : ((d1 == 0) = false) ∨ ((d1 == 0) = true ∧ (w1 == 0) = false) := by
          by_cases h : d1 = 0
          · exact .inr ⟨by simpa using h, by simp; omega⟩
          · exact .inl (by simpa using h)
        clear c0 hu hv e1
        rcases hcond with q1 | ⟨q1, q2⟩
        all_goals
          go_upto_region 6 with fail
          refine wp_world (fun W => Below w.heap.size w W ∧ Blk W w.heap.size 25 #[.int .i64 d1, .int .i64 d2, .int .i64 w1, .int .i64 w2, .int .i64 p1, .int .i64 p2] ∧ Blk W (w.heap.size + 1) 23 #[.int .i64 0, .int .i64 0] ∧ Blk W W1.heap.size 23 #[.int .i64 0, .int .i64 0] ∧ w.heap.size + 1 < W1.heap.size) ⟨hB.alloc hB.size _, b0.alloc _, b1.alloc _, Blk.new _ _ _, b1.lt⟩ ?_
          clear hB b0 b1 x0 x1 x2 x3 x4 x5 y0 y1 n1
          generalize W1.heap.size = g4 at *
          rintro W2 ⟨hB, b0, b1, b4, n4⟩
          obtain ⟨x0, x1, x2, x3, x4, x5⟩ := b0.facts6
          obtain ⟨y0, y1, _, _⟩ := b4.facts2
          go_wp2_with fail
          refine (hdn.out _).mono ?_
          rintro e W3 ⟨rfl, hb⟩
          replace b0 := b0.below hb b0.lt
          replace b1 := b1.below hb b1.lt
          replace b4 := b4.below hb b4.lt
          replace hB := hB.trans (hb.mono hB.size)
          clear hb hdn x0 x1 x2 x3 x4 x5 y0 y1
          obtain ⟨y0, y1, _, _⟩ := b4.facts2
          go_upto_region 8 with fail
          refine wp_world (fun W => Below w.heap.size w W ∧ Blk W w.heap.size 25 #[.int .i64 d1, .int .i64 d2, .int .i64 w1, .int .i64 w2, .int .i64 p1, .int .i64 p2] ∧ Blk W (w.heap.size + 1) 23 #[.int .i64 0, .int .i64 0] ∧ Blk W g4 23 #[.int .i64 u, .int .i64 0]) ⟨hB.setCell (by simp only; omega) _, b0.far (by simp only; omega) _, b1.far (by simp only; omega) _, b4.set_ 0 _⟩ ?_
          clear hB b0 b1 b4 y0 y1
          rintro W4 ⟨hB, b0, b1, b4⟩
          obtain ⟨x0, x1, x2, x3, x4, x5⟩ := b0.facts6
          obtain ⟨y0, y1, _, _⟩ := b4.facts2
          go_wp2_with fail
          refine (hup.out _).mono ?_
          rintro e W5 ⟨rfl, hb⟩
          replace b0 := b0.below hb b0.lt
          replace b1 := b1.below hb b1.lt
          replace b4 := b4.below hb b4.lt
          replace hB := hB.trans (hb.mono hB.size)
          clear hb hup x0 x1 x2 x3 x4 x5 y0 y1
          obtain ⟨y0, y1, _, _⟩ := b4.facts2
          go_upto_region 10 with fail
          refine wp_world (fun W => Below w.heap.size w W ∧ Blk W (w.heap.size + 1) 23 #[.int .i64 0, .int .i64 0] ∧ Blk W g4 23 #[.int .i64 u, .int .i64 v]) ⟨hB.setCell (by simp only; omega) _, b1.far (by simp only; omega) _, b4.set_ 1 _⟩ ?_
          clear hB b0 b1 b4 y0 y1
          rintro W6 ⟨hB, b1, b4⟩
          obtain ⟨y0, y1, _, _⟩ := b4.facts2
          obtain ⟨z0, z1, _, _⟩ := b1.facts2
          go_wp2_with fail
          refine ret_world (fun W => Below w.heap.size w W ∧ Blk W (w.heap.size + 1) 23 #[.int .i64 u, .int .i64 v]) ⟨belowp hB (by omega), (b1.set_ 0 _).set_ 1 _⟩ ?_
          clear hB b1 z0 z1
          rintro W ⟨hB, b1⟩
          obtain ⟨z0, z1, _, _⟩ := b1.facts2
          refine bodyPost_ret (v := .tuple #[.agg #[.int .i64 u, .int .i64 v], .int .i64 0]) (by simp [results, Try.results15, go_sem, z0, z1]) rfl ?_
          exact ⟨_, _, 0, rfl, hnf.out, hB⟩
      · have hw : w1 = 0 := by omega
        have q1 : (d1 == 0) = false := by simpa using fun h => c0 ⟨h, hw⟩
        have t1 : decide (0 < w1) = false := by simpa using e1
        have hu : 10000 * w1 / (w1 + d2) = 0 := by rw [hw]; simp
        by_cases e2 : 0 < w2
        · obtain ⟨v, hv⟩ : ∃ v, upQ (10000 * w2) (w2 + d1) = v := ⟨_, rfl⟩
          replace hnf := Lib.hid (hnf.out 0 v hu hv)
          have hup := Lib.hid fun W => refup_any (10000 * w2) (w2 + d1) v W (by omega) g2 (by omega) (Lib.hid hv)
          have t2 : decide (0 < w2) = true := by simpa using e2
          clear c0 hu hv e1 e2 hw
          go_upto_region 6 with fail
          refine wp_world (fun W => Below w.heap.size w W ∧ Blk W w.heap.size 25 #[.int .i64 d1, .int .i64 d2, .int .i64 w1, .int .i64 w2, .int .i64 p1, .int .i64 p2] ∧ Blk W (w.heap.size + 1) 23 #[.int .i64 0, .int .i64 0] ∧ Blk W W1.heap.size 23 #[.int .i64 0, .int .i64 0] ∧ w.heap.size + 1 < W1.heap.size) ⟨hB.alloc hB.size _, b0.alloc _, b1.alloc _, Blk.new _ _ _, b1.lt⟩ ?_
          clear hB b0 b1 x0 x1 x2 x3 x4 x5 y0 y1 n1
          generalize W1.heap.size = g4 at *
          rintro W2 ⟨hB, b0, b1, b4, n4⟩
          obtain ⟨x0, x1, x2, x3, x4, x5⟩ := b0.facts6
          obtain ⟨y0, y1, _, _⟩ := b4.facts2
          go_wp2_with fail
          refine (hup.out _).mono ?_
          rintro e W5 ⟨rfl, hb⟩
          replace b0 := b0.below hb b0.lt
          replace b1 := b1.below hb b1.lt
          replace b4 := b4.below hb b4.lt
          replace hB := hB.trans (hb.mono hB.size)
          clear hb hup x0 x1 x2 x3 x4 x5 y0 y1
          obtain ⟨y0, y1, _, _⟩ := b4.facts2
          go_upto_region 10 with fail
          refine wp_world (fun W => Below w.heap.size w W ∧ Blk W (w.heap.size + 1) 23 #[.int .i64 0, .int .i64 0] ∧ Blk W g4 23 #[.int .i64 0, .int .i64 v]) ⟨hB.setCell (by simp only; omega) _, b1.far (by simp only; omega) _, b4.set_ 1 _⟩ ?_
          clear hB b0 b1 b4 y0 y1
          rintro W6 ⟨hB, b1, b4⟩
          obtain ⟨y0, y1, _, _⟩ := b4.facts2
          obtain ⟨z0, z1, _, _⟩ := b1.facts2
          go_wp2_with fail
          refine ret_world (fun W => Below w.heap.size w W ∧ Blk W (w.heap.size + 1) 23 #[.int .i64 0, .int .i64 v]) ⟨belowp hB (by omega), (b1.set_ 0 _).set_ 1 _⟩ ?_
          clear hB b1 z0 z1
          rintro W ⟨hB, b1⟩
          obtain ⟨z0, z1, _, _⟩ := b1.facts2
          refine bodyPost_ret (v := .tuple #[.agg #[.int .i64 0, .int .i64 v], .int .i64 0]) (by simp [results, Try.results15, go_sem, z0, z1]) rfl ?_
          exact ⟨_, _, 0, rfl, hnf.out, hB⟩
        · have hw2 : w2 = 0 := by omega
          have hv : upQ (10000 * w2) (w2 + d1) = 0 := by rw [hw2]; unfold upQ; exact Int.ediv_eq_zero_of_lt (by omega) (by omega)
          replace hnf := Lib.hid (hnf.out 0 0 hu hv)
          have t2 : decide (0 < w2) = false := by simpa using e2
          clear c0 hu hv e1 e2 hw hw2
          go_upto_region 6 with fail
          refine wp_world (fun W => Below w.heap.size w W ∧ Blk W w.heap.size 25 #[.int .i64 d1, .int .i64 d2, .int .i64 w1, .int .i64 w2, .int .i64 p1, .int .i64 p2] ∧ Blk W (w.heap.size + 1) 23 #[.int .i64 0, .int .i64 0] ∧ Blk W W1.heap.size 23 #[.int .i64 0, .int .i64 0] ∧ w.heap.size + 1 < W1.heap.size) ⟨hB.alloc hB.size _, b0.alloc _, b1.alloc _, Blk.new _ _ _, b1.lt⟩ ?_
          clear hB b0 b1 x0 x1 x2 x3 x4 x5 y0 y1 n1
          generalize W1.heap.size = g4 at *
          rintro W2 ⟨hB, b0, b1, b4, n4⟩
          obtain ⟨x0, x1, x2, x3, x4, x5⟩ := b0.facts6
          obtain ⟨y0, y1, _, _⟩ := b4.facts2
          obtain ⟨z0, z1, _, _⟩ := b1.facts2
          go_wp2_with fail
          refine ret_world (fun W => Below w.heap.size w W ∧ Blk W (w.heap.size + 1) 23 #[.int .i64 0, .int .i64 0]) ⟨belowp hB (by omega), (b1.set_ 0 _).set_ 1 _⟩ ?_
          clear hB b1 z0 z1
          rintro W ⟨hB, b1⟩
          obtain ⟨z0, z1, _, _⟩ := b1.facts2
          refine bodyPost_ret (v := .tuple #[.agg #[.int .i64 0, .int .i64 0], .int .i64 0]) (by simp [results, Try.results15, go_sem, z0, z1]) rfl ?_
          exact ⟨_, _, 0, rfl, hnf.out, hB⟩

set_option maxHeartbeats 4000000 in
set_option maxRecDepth 100000 in
theorem refPhenols_any (d1 d2 w1 w2 p1 p2 : Int) (w : World) :
    Calls Try.prog 17 #[.agg #[.int .i64 d1, .int .i64 d2, .int .i64 w1, .int .i64 w2, .int .i64 p1, .int .i64 p2]] w (SpanErr (PhenIs d1 d2 w1 w2 p1 p2) w) := by
  have hv := Lib.hid fun W => refMalt_any d1 d2 w1 w2 p1 p2 W
  go_enter Try.func17, Try.ntmps17
  go_wp2_with fail
  refine calls_world (fun W => Below w.heap.size w W ∧ Blk W w.heap.size 25 #[.int .i64 d1, .int .i64 d2, .int .i64 w1, .int .i64 w2, .int .i64 p1, .int .i64 p2] ∧ Blk W (w.heap.size + 1) 23 #[.int .i64 0, .int .i64 0])
    ⟨((Below.refl _ _).alloc (Nat.le_refl _) _).alloc (by simp) _, (Blk.new _ _ _).alloc _, blk_at (by simp)⟩ ?_
  rintro W0 ⟨hB0, b0, b1⟩
  refine (hv.out _).mono ?_
  rintro e W1 ⟨r, rfl, hr, hb⟩
  replace b0 := b0.below hb b0.lt
  replace b1 := b1.below hb b1.lt
  have hB := hB0.trans (hb.mono hB0.size)
  clear hb hB0 hv
  obtain ⟨x0, x1, x2, x3, x4, x5⟩ := b0.facts6
  obtain ⟨y0, y1, _, _⟩ := b1.facts2
  have n1 := b1.lt
  cases r with
  | false =>
    have hnf := Lib.hid (show PhenIs d1 d2 w1 w2 p1 p2 0 0 1 from .inl ⟨fun h => Bool.noConfusion (hr.2 h), rfl, rfl, rfl⟩)
    clear hr
    go_wp2_with fail
    refine bodyPost_ret (v := .tuple #[.agg #[.int .i64 0, .int .i64 0], .int .i64 1]) (by simp [results, Try.results17, go_sem, y0, y1]) rfl ?_
    exact ⟨_, _, 1, rfl, hnf.out, (hB.setCell (by simp only; omega) _).setCell (by simp only; omega) _⟩
  | true =>
    have hok := hr.1 rfl
    clear hr
    obtain ⟨⟨a1, a2, a3⟩, _, ⟨a4, a5, a6⟩⟩ := id hok
    by_cases c0 : d1 = 0
    · have hnf := Lib.hid (show PhenIs d1 d2 w1 w2 p1 p2 0 0 4 from .inr ⟨hok, .inl ⟨c0, rfl, rfl, rfl⟩⟩)
      have q1 : (d1 == 0) = true := by simpa using c0
      clear hok c0
      go_wp2_with fail
      refine bodyPost_ret (v := .tuple #[.agg #[.int .i64 0, .int .i64 0], .int .i64 4]) (by simp [results, Try.results17, go_sem, y0, y1]) rfl ?_
      exact ⟨_, _, 4, rfl, hnf.out, (hB.setCell (by simp only; omega) _).setCell (by simp only; omega) _⟩
    · obtain ⟨u, hu⟩ : ∃ u, 1000 * p1 / d2 = u := ⟨_, rfl⟩
      obtain ⟨v, hv⟩ : ∃ v, upQ (1000 * p2) d1 = v := ⟨_, rfl⟩
      have hnf := Lib.hid (show PhenIs d1 d2 w1 w2 p1 p2 u v 0 from .inr ⟨hok, .inr ⟨c0, hu.symm, hv.symm, rfl⟩⟩)
      have hdn := Lib.hid fun W => refdown_any (1000 * p1) d2 u W (by omega) (by omega) (by omega) (Lib.hid hu)
      have hup := Lib.hid fun W => refup_any (1000 * p2) d1 v W (by omega) (by omega) (by omega) (Lib.hid hv)
      have x0' := fun d os => cell_regrown x0 d os
      have x1' := fun d os => cell_regrown x1 d os
      have x4' := fun d os => cell_regrown x4 d os
      have x5' := fun d os => cell_regrown x5 d os
      have r1 : IntKind.i64.wrap (1000 * p1) = 1000 * p1 := IntWalk.i64_in _ (by omega)
      have r2 : IntKind.i64.wrap (1000 * p2) = 1000 * p2 := IntWalk.i64_in _ (by omega)
      have q1 : (d1 == 0) = false := by simpa using c0
      clear hok c0 hu hv
      go_upto_region 5 with fail
      refine wp_region_below_tail 17 (by kernel_rfl) (by kernel_rfl) ?_
      simp only [List.take_succ_cons, List.take_zero, List.drop_succ_cons, List.drop_zero]
      repeat (quiet_step (fail))
      quiet_step (first | (go_at_call 42; exact quiet_call (fun W1 _ => hdn.out W1)))
      repeat (quiet_step (fail))
      quiet_step (first | (go_at_call 43; exact quiet_call (fun W1 _ => hup.out W1)))
      repeat (quiet_step (fail))
      refine wpQuiet_nil ?_
      intro _ hw'
      obtain ⟨⟨dq, osq⟩, hw''⟩ := hw'
      subst hw''
      have hb := below_regrown W1 dq osq
      replace b1 := b1.below hb b1.lt
      replace hB := hB.trans (hb.mono hB.size)
      clear hb b0 x0 x1 x2 x3 x4 x5 x0' x1' x4' x5' y0 y1 n1 r1 r2 hdn hup
      generalize grow (redrawn W1 dq) osq = W2 at *
      obtain ⟨y0, y1, _, _⟩ := b1.facts2
      have n1 := b1.lt
      go_wp2
      refine bodyPost_ret (v := .tuple #[.agg #[.int .i64 u, .int .i64 v], .int .i64 0]) (by simp [results, Try.results17, go_sem, y0, y1]) rfl ?_
      exact ⟨_, _, 0, rfl, hnf.out, (hB.setCell (by simp only; omega) _).setCell (by simp only; omega) _⟩
end Go.Proofs.Ytdadpfgcjffclaa
