/- Moisture and Phenols, whatever the malt is. -/
import Derived.Test.YtdadpfgcjffclaaValid
import Derived.Test.YtdadpfgcjffclaaSmall
import Derived.Test.YtdadpfgcjffclaaCells
namespace Go.Proofs.Ytdadpfgcjffclaa
open Go.RowKit Go.Sort
attribute [local go_sem] Oper.calm Oper.calmAt Oper.calmUpon

def MoistIs (d1 d2 w1 w2 p1 p2 a b k : Int) : Prop :=
  (¬ MaltOk d1 d2 w1 w2 p1 p2 ∧ a = 0 ∧ b = 0 ∧ k = 1) ∨ (MaltOk d1 d2 w1 w2 p1 p2 ∧ ((d1 = 0 ∧ w1 = 0 ∧ a = 0 ∧ b = 0 ∧ k = 4) ∨
    (¬ (d1 = 0 ∧ w1 = 0) ∧ a = 10000 * w1 / (w1 + d2) ∧ b = upQ (10000 * w2) (w2 + d1) ∧ k = 0)))
def PhenIs (d1 d2 w1 w2 p1 p2 a b k : Int) : Prop :=
  (¬ MaltOk d1 d2 w1 w2 p1 p2 ∧ a = 0 ∧ b = 0 ∧ k = 1) ∨ (MaltOk d1 d2 w1 w2 p1 p2 ∧ ((d1 = 0 ∧ a = 0 ∧ b = 0 ∧ k = 4) ∨
    (¬ d1 = 0 ∧ a = 1000 * p1 / d2 ∧ b = upQ (1000 * p2) d1 ∧ k = 0)))
theorem MoistIs.uniq {d1 d2 w1 w2 p1 p2 a b k a' b' k' : Int} (h : MoistIs d1 d2 w1 w2 p1 p2 a b k) (h' : MoistIs d1 d2 w1 w2 p1 p2 a' b' k') : a' = a ∧ b' = b ∧ k' = k := by
  rcases h with ⟨h1, h2, h3, h4⟩ | ⟨h1, ⟨h5, h6, h2, h3, h4⟩ | ⟨h5, h2, h3, h4⟩⟩ <;> rcases h' with ⟨g1, g2, g3, g4⟩ | ⟨g1, ⟨g5, g6, g2, g3, g4⟩ | ⟨g5, g2, g3, g4⟩⟩ <;> first
    | exact absurd h1 g1
    | exact absurd g1 h1
    | exact ⟨g2.trans h2.symm, g3.trans h3.symm, g4.trans h4.symm⟩
    | exact (g5 (And.intro h5 h6)).elim
    | exact (h5 (And.intro g5 g6)).elim
theorem PhenIs.uniq {d1 d2 w1 w2 p1 p2 a b k a' b' k' : Int} (h : PhenIs d1 d2 w1 w2 p1 p2 a b k) (h' : PhenIs d1 d2 w1 w2 p1 p2 a' b' k') : a' = a ∧ b' = b ∧ k' = k := by
  rcases h with ⟨h1, h2, h3, h4⟩ | ⟨h1, ⟨h5, h2, h3, h4⟩ | ⟨h5, h2, h3, h4⟩⟩ <;> rcases h' with ⟨g1, g2, g3, g4⟩ | ⟨g1, ⟨g5, g2, g3, g4⟩ | ⟨g5, g2, g3, g4⟩⟩ <;> first
    | exact absurd h1 g1
    | exact absurd g1 h1
    | exact absurd h5 g5
    | exact absurd g5 h5
    | exact ⟨g2.trans h2.symm, g3.trans h3.symm, g4.trans h4.symm⟩

set_option maxHeartbeats 4000000 in
set_option maxRecDepth 100000 in
theorem Moisture_any (d1 d2 w1 w2 p1 p2 : Int) (w : World) :
    Calls Try.prog 14 #[.agg #[.int .i64 d1, .int .i64 d2, .int .i64 w1, .int .i64 w2, .int .i64 p1, .int .i64 p2]] w (SpanErr (MoistIs d1 d2 w1 w2 p1 p2) w) := by
  have hv := Lib.hid fun W => validMalt_any d1 d2 w1 w2 p1 p2 W
  go_enter Try.func14, Try.ntmps14
  go_wp2_with fail
  refine calls_world (fun W => Below w.heap.size w W ∧ Blk W w.heap.size 25 #[.int .i64 d1, .int .i64 d2, .int .i64 w1, .int .i64 w2, .int .i64 p1, .int .i64 p2] ∧ Blk W (w.heap.size + 1) 23 #[.int .i64 0, .int .i64 0])
    ⟨((Below.refl _ _).alloc (Nat.le_refl _) _).alloc (by simp) _, (Blk.new _ _ _).alloc _, blk_at (by simp)⟩ ?_
  rintro W0 ⟨hB0, b0, b1⟩
  refine (hv.out _).mono ?_
  rintro e W1 ⟨r, rfl, hr, hb⟩
  replace b0 := b0.below hb b0.lt
  replace b1 := b1.below hb b1.lt
  have hB := hB0.trans (hb.mono hB0.size)
  clear hb hB0 hv
  obtain ⟨x0, x1, x2, x3, x4, x5⟩ := b0.facts6
  obtain ⟨y0, y1, _, _⟩ := b1.facts2
  have n1 := b1.lt
  cases r with
  | false =>
    have hnf := Lib.hid (show MoistIs d1 d2 w1 w2 p1 p2 0 0 1 from .inl ⟨fun h => Bool.noConfusion (hr.2 h), rfl, rfl, rfl⟩)
    clear hr
    go_wp2_with fail
    refine bodyPost_ret (v := .tuple #[.agg #[.int .i64 0, .int .i64 0], .int .i64 1]) (by simp [results, Try.results14, go_sem, y0, y1]) rfl ?_
    exact ⟨_, _, 1, rfl, hnf.out, (hB.setCell (by simp only; omega) _).setCell (by simp only; omega) _⟩
  | true =>
    have hok := hr.1 rfl
    clear hr
    obtain ⟨⟨a1, a2, a3⟩, ⟨a4, a5, a6⟩, _⟩ := id hok
    by_cases c0 : d1 = 0 ∧ w1 = 0
    · have hnf := Lib.hid (show MoistIs d1 d2 w1 w2 p1 p2 0 0 4 from .inr ⟨hok, .inl ⟨c0.1, c0.2, rfl, rfl, rfl⟩⟩)
      have q1 : (d1 == 0) = true := by simpa using c0.1
      have q2 : (w1 == 0) = true := by simpa using c0.2
      clear hok c0
      go_wp2_with fail
      refine bodyPost_ret (v := .tuple #[.agg #[.int .i64 0, .int .i64 0], .int .i64 4]) (by simp [results, Try.results14, go_sem, y0, y1]) rfl ?_
      exact ⟨_, _, 4, rfl, hnf.out, (hB.setCell (by simp only; omega) _).setCell (by simp only; omega) _⟩
    · obtain ⟨u, hu⟩ : ∃ u, 10000 * w1 / (w1 + d2) = u := ⟨_, rfl⟩
      obtain ⟨v, hv⟩ : ∃ v, upQ (10000 * w2) (w2 + d1) = v := ⟨_, rfl⟩
      have hnf := Lib.hid (show MoistIs d1 d2 w1 w2 p1 p2 u v 0 from .inr ⟨hok, .inr ⟨c0, hu.symm, hv.symm, rfl⟩⟩)
      have g1 : 0 < w1 + d2 := by omega
      have g2 : 0 < w2 + d1 := by omega
      have hdn := Lib.hid fun W => down_any (10000 * w1) (w1 + d2) u W (by omega) g1 (by omega) (Lib.hid hu)
      have hup := Lib.hid fun W => up_any (10000 * w2) (w2 + d1) v W (by omega) g2 (by omega) (Lib.hid hv)
      have x0' := fun d os => cell_regrown x0 d os
      have x1' := fun d os => cell_regrown x1 d os
      have x2' := fun d os => cell_regrown x2 d os
      have x3' := fun d os => cell_regrown x3 d os
      have r1 : IntKind.i64.wrap (10000 * w1) = 10000 * w1 := IntWalk.i64_in _ (by omega)
      have r2 : IntKind.i64.wrap (10000 * w2) = 10000 * w2 := IntWalk.i64_in _ (by omega)
      have r3 : IntKind.i64.wrap (w1 + d2) = w1 + d2 := IntWalk.i64_in _ (by omega)
      have r4 : IntKind.i64.wrap (w2 + d1) = w2 + d1 := IntWalk.i64_in _ (by omega)
      have hcond : ((d1 == 0) = false) ∨ ((d1 == 0) = true ∧ (w1 == 0) = false) := by
        by_cases h : d1 = 0
        · exact .inr ⟨by simpa using h, by simpa using fun h' => c0 ⟨h, h'⟩⟩
        · exact .inl (by simpa using h)
      clear hok c0 hu hv
      rcases hcond with q1 | ⟨q1, q2⟩
      all_goals
        go_upto_region 5 with fail
        refine wp_region_below_tail 25 (by kernel_rfl) (by kernel_rfl) ?_
        simp only [List.take_succ_cons, List.take_zero, List.drop_succ_cons, List.drop_zero]
        repeat (quiet_step (fail))
        quiet_step (first | (go_at_call 40; exact quiet_call (fun W1 _ => hdn.out W1)))
        repeat (quiet_step (fail))
        quiet_step (first | (go_at_call 41; exact quiet_call (fun W1 _ => hup.out W1)))
        repeat (quiet_step (fail))
        refine wpQuiet_nil ?_
        intro _ hw'
        obtain ⟨⟨dq, osq⟩, hw''⟩ := hw'
        subst hw''
        have hb := below_regrown W1 dq osq
        replace b1 := b1.below hb b1.lt
        replace hB := hB.trans (hb.mono hB.size)
        clear hb b0 x0 x1 x2 x3 x4 x5 x0' x1' x2' x3' y0 y1 n1 r1 r2 r3 r4 hdn hup
        generalize grow (redrawn W1 dq) osq = W2 at *
        obtain ⟨y0, y1, _, _⟩ := b1.facts2
        have n1 := b1.lt
        go_wp2
        refine bodyPost_ret (v := .tuple #[.agg #[.int .i64 u, .int .i64 v], .int .i64 0]) (by simp [results, Try.results14, go_sem, y0, y1]) rfl ?_
        exact ⟨_, _, 0, rfl, hnf.out, (hB.setCell (by simp only; omega) _).setCell (by simp only; omega) _⟩

set_option maxHeartbeats 4000000 in
set_option maxRecDepth 100000 in
theorem Phenols_any (d1 d2 w1 w2 p1 p2 : Int) (w : World) :
    Calls Try.prog 16 #[.agg #[.int .i64 d1, .int .i64 d2, .int .i64 w1, .int .i64 w2, .int .i64 p1, .int .i64 p2]] w (SpanErr (PhenIs d1 d2 w1 w2 p1 p2) w) := by
  have hv := Lib.hid fun W => validMalt_any d1 d2 w1 w2 p1 p2 W
  go_enter Try.func16, Try.ntmps16
  go_wp2_with fail
  refine calls_world (fun W => Below w.heap.size w W ∧ Blk W w.heap.size 25 #[.int .i64 d1, .int .i64 d2, .int .i64 w1, .int .i64 w2, .int .i64 p1, .int .i64 p2] ∧ Blk W (w.heap.size + 1) 23 #[.int .i64 0, .int .i64 0])
    ⟨((Below.refl _ _).alloc (Nat.le_refl _) _).alloc (by simp) _, (Blk.new _ _ _).alloc _, blk_at (by simp)⟩ ?_
  rintro W0 ⟨hB0, b0, b1⟩
  refine (hv.out _).mono ?_
  rintro e W1 ⟨r, rfl, hr, hb⟩
  replace b0 := b0.below hb b0.lt
  replace b1 := b1.below hb b1.lt
  have hB := hB0.trans (hb.mono hB0.size)
  clear hb hB0 hv
  obtain ⟨x0, x1, x2, x3, x4, x5⟩ := b0.facts6
  obtain ⟨y0, y1, _, _⟩ := b1.facts2
  have n1 := b1.lt
  cases r with
  | false =>
    have hnf := Lib.hid (show PhenIs d1 d2 w1 w2 p1 p2 0 0 1 from .inl ⟨fun h => Bool.noConfusion (hr.2 h), rfl, rfl, rfl⟩)
    clear hr
    go_wp2_with fail
    refine bodyPost_ret (v := .tuple #[.agg #[.int .i64 0, .int .i64 0], .int .i64 1]) (by simp [results, Try.results16, go_sem, y0, y1]) rfl ?_
    exact ⟨_, _, 1, rfl, hnf.out, (hB.setCell (by simp only; omega) _).setCell (by simp only; omega) _⟩
  | true =>
    have hok := hr.1 rfl
    clear hr
    obtain ⟨⟨a1, a2, a3⟩, _, ⟨a4, a5, a6⟩⟩ := id hok
    by_cases c0 : d1 = 0
    · have hnf := Lib.hid (show PhenIs d1 d2 w1 w2 p1 p2 0 0 4 from .inr ⟨hok, .inl ⟨c0, rfl, rfl, rfl⟩⟩)
      have q1 : (d1 == 0) = true := by simpa using c0
      clear hok c0
      go_wp2_with fail
      refine bodyPost_ret (v := .tuple #[.agg #[.int .i64 0, .int .i64 0], .int .i64 4]) (by simp [results, Try.results16, go_sem, y0, y1]) rfl ?_
      exact ⟨_, _, 4, rfl, hnf.out, (hB.setCell (by simp only; omega) _).setCell (by simp only; omega) _⟩
    · obtain ⟨u, hu⟩ : ∃ u, 1000 * p1 / d2 = u := ⟨_, rfl⟩
      obtain ⟨v, hv⟩ : ∃ v, upQ (1000 * p2) d1 = v := ⟨_, rfl⟩
      have hnf := Lib.hid (show PhenIs d1 d2 w1 w2 p1 p2 u v 0 from .inr ⟨hok, .inr ⟨c0, hu.symm, hv.symm, rfl⟩⟩)
      have hdn := Lib.hid fun W => down_any (1000 * p1) d2 u W (by omega) (by omega) (by omega) (Lib.hid hu)
      have hup := Lib.hid fun W => up_any (1000 * p2) d1 v W (by omega) (by omega) (by omega) (Lib.hid hv)
      have x0' := fun d os => cell_regrown x0 d os
      have x1' := fun d os => cell_regrown x1 d os
      have x4' := fun d os => cell_regrown x4 d os
      have x5' := fun d os => cell_regrown x5 d os
      have r1 : IntKind.i64.wrap (1000 * p1) = 1000 * p1 := IntWalk.i64_in _ (by omega)
      have r2 : IntKind.i64.wrap (1000 * p2) = 1000 * p2 := IntWalk.i64_in _ (by omega)
      have q1 : (d1 == 0) = false := by simpa using c0
      clear hok c0 hu hv
      go_upto_region 5 with fail
      refine wp_region_below_tail 17 (by kernel_rfl) (by kernel_rfl) ?_
      simp only [List.take_succ_cons, List.take_zero, List.drop_succ_cons, List.drop_zero]
      repeat (quiet_step (fail))
      quiet_step (first | (go_at_call 40; exact quiet_call (fun W1 _ => hdn.out W1)))
      repeat (quiet_step (fail))
      quiet_step (first | (go_at_call 41; exact quiet_call (fun W1 _ => hup.out W1)))
      repeat (quiet_step (fail))
      refine wpQuiet_nil ?_
      intro _ hw'
      obtain ⟨⟨dq, osq⟩, hw''⟩ := hw'
      subst hw''
      have hb := below_regrown W1 dq osq
      replace b1 := b1.below hb b1.lt
      replace hB := hB.trans (hb.mono hB.size)
      clear hb b0 x0 x1 x2 x3 x4 x5 x0' x1' x4' x5' y0 y1 n1 r1 r2 hdn hup
      generalize grow (redrawn W1 dq) osq = W2 at *
      obtain ⟨y0, y1, _, _⟩ := b1.facts2
      have n1 := b1.lt
      go_wp2
      refine bodyPost_ret (v := .tuple #[.agg #[.int .i64 u, .int .i64 v], .int .i64 0]) (by simp [results, Try.results16, go_sem, y0, y1]) rfl ?_
      exact ⟨_, _, 0, rfl, hnf.out, (hB.setCell (by simp only; omega) _).setCell (by simp only; omega) _⟩
end Go.Proofs.Ytdadpfgcjffclaa
