/- What the document's own package says of mashes. -/
import Derived.Test.YtjcadgklamhohaaRefBase
import Derived.RegionTactic
import Derived.BigRegion
namespace Go.Proofs.Ytjcadgklamhohaa
open Go.RowKit Go.Sort
attribute [local go_sem] Oper.calm Oper.calmAt Oper.calmUpon

set_option maxHeartbeats 8000000 in
set_option maxRecDepth 100000 in
theorem rMash_any (g m x1 x2 h1 h2 : Int) (w : World) : Calls Try.prog 17 #[.agg #[.int .i64 g, .int .i64 m, .int .i64 x1, .int .i64 x2, .int .i64 h1, .int .i64 h2]] w fun e w' => e = .returned (wortV (mashR g m x1 x2 h1 h2)) ∧ Below w.heap.size w w' := by
  have hv := Lib.hid fun W => rvalid_any g m x1 x2 h1 h2 W
  have hfin := Lib.hid (show ∀ r : Wort, mashR g m x1 x2 h1 h2 = r → ∀ W, Below w.heap.size w W → (Ending.returned (wortV r) = .returned (wortV (mashR g m x1 x2 h1 h2)) ∧ Below w.heap.size w W) from fun r h W hB => ⟨by rw [h], hB⟩)
  have hno := Lib.hid fun (h : ¬ MashOk g m x1 x2 h1 h2) => hfin.out ⟨0, 0, 0, 0, 0, 0, 1⟩ (by unfold mashR; rw [if_neg h])
  have hsh := Lib.hid fun (h : MashOk g m x1 x2 h1 h2) (h' : volLo g m h2 < 1) => hfin.out ⟨0, 0, 0, 0, 0, 0, 10⟩ (by unfold mashR; rw [if_pos h, if_pos h'])
  have hyes := Lib.hid fun (h : MashOk g m x1 x2 h1 h2) (h' : ¬ volLo g m h2 < 1) => hfin.out _ (by unfold mashR; rw [if_pos h, if_neg h'])
  clear hfin
  generalize mashR g m x1 x2 h1 h2 = rr at *
  simp only [wortV] at hno hsh hyes ⊢
  go_enter Try.func17, Try.ntmps17
  go_wp2_with fail
  refine calls_world (fun W => Below w.heap.size w W ∧ Blk W w.heap.size 25 #[.int .i64 g, .int .i64 m, .int .i64 x1, .int .i64 x2, .int .i64 h1, .int .i64 h2] ∧ Blk W (w.heap.size + 1) 27 #[.int .i64 0, .int .i64 0, .int .i64 0, .int .i64 0] ∧ Blk W (w.heap.size + 1 + 1) 23 #[.int .i64 0, .int .i64 0])
    ⟨(((Below.refl _ _).alloc (Nat.le_refl _) _).alloc (by simp) _).alloc (by simp; omega) _, ((Blk.new _ _ _).alloc _).alloc _, (blk_at (by simp)).alloc _, blk_at (by simp)⟩ ?_
  rintro W0 ⟨hB, b0, b1, b2⟩
  refine (hv.out _).mono ?_
  rintro e W1 ⟨r, rfl, hr, hb⟩
  replace b0 := b0.below hb b0.lt
  replace b1 := b1.below hb b1.lt
  replace b2 := b2.below hb b2.lt
  replace hB := hB.trans (hb.mono hB.size)
  clear hb hv
  obtain ⟨c0, c1, c2, c3, c4, c5⟩ := b0.facts6
  have n2 := b2.lt
  cases r with
  | false =>
    replace hno := Lib.hid (hno.out (fun h => Bool.noConfusion (hr.2 h)))
    clear hr hsh hyes
    obtain ⟨y0, y1, y2, y3, f0, f1, f2, f3⟩ := b1.facts4
    obtain ⟨z0, z1, e0, e1⟩ := b2.facts2
    go_wp2_with fail
    refine ret_world (fun W => Below w.heap.size w W ∧ Blk W (w.heap.size + 1) 27 #[.int .i64 0, .int .i64 0, .int .i64 0, .int .i64 0] ∧ Blk W (w.heap.size + 1 + 1) 23 #[.int .i64 0, .int .i64 0]) ⟨belowp (belowp (belowp hB (by omega)) (by omega)) (by omega), b1.set4.farp (by omega), ((b2.farp (by omega)).farp (by omega)).setp⟩ ?_
    clear hB b0 b1 b2 c0 c1 c2 c3 c4 c5 y0 y1 y2 y3 f0 f1 f2 f3 z0 z1 e0 e1
    rintro W ⟨hB, b1, b2⟩
    obtain ⟨y0, y1, y2, y3, _, _, _, _⟩ := b1.facts4
    obtain ⟨z0, z1, _, _⟩ := b2.facts2
    exact bodyPost_ret (v := .tuple #[.agg #[.int .i64 0, .int .i64 0, .int .i64 0, .int .i64 0], .agg #[.int .i64 0, .int .i64 0], .int .i64 1]) (by simp [results, Try.results17, go_sem, y0, y1, y2, y3, z0, z1]) rfl (hno.out _ hB)
  | true =>
    have hok := hr.1 rfl
    clear hr hno
    obtain ⟨⟨a1, a2⟩, ⟨a3, a4⟩, ⟨a5, a6⟩, ⟨a7, a8⟩, a9, a10⟩ := vol_bd hok
    obtain ⟨⟨g0, g1⟩, ⟨m0, m1⟩, ⟨xa, xb, xc⟩, ⟨ha, hb, hc⟩⟩ := id hok
    replace hsh := Lib.hid (hsh.out hok)
    replace hyes := Lib.hid (hyes.out hok)
    clear hok
    simp only [volLo, volHi] at hsh hyes a9 a10
    have X1b := prod_bd (A := 16777216) (B := 1000) (show 0 ≤ g by omega) g1 xa (by omega)
    have X2b := prod_bd (A := 16777216) (B := 1000) (show 0 ≤ g by omega) g1 (show 0 ≤ x2 by omega) xc
    generalize hC1 : g * h1 / 1000 = C1 at *
    generalize hC2 : upQ (g * h2) 1000 = C2 at *
    have k3 := Lib.hid fun W => rup_any (g * h2) 1000 C2 W (by omega) (by omega) (Lib.hid hC2)
    have k4 := Lib.hid fun W => rdown_any (g * h1) 1000 C1 W (by omega) (by omega) (Lib.hid hC1)
    have r1 : IntKind.i64.wrap (g * h1) = g * h1 := IntWalk.i64_in _ (by omega)
    have r2 : IntKind.i64.wrap (g * h2) = g * h2 := IntWalk.i64_in _ (by omega)
    clear hC1 hC2
    generalize hv1 : m - C2 = v1 at *
    generalize hv2 : m - C1 = v2 at *
    have r3 : IntKind.i64.wrap (m - C1) = v2 := by rw [IntWalk.i64_in _ (by omega)]; exact hv2
    have r4 : IntKind.i64.wrap (m - C2) = v1 := by rw [IntWalk.i64_in _ (by omega)]; exact hv1
    have k7 := fun (h : 1 ≤ v1) => prod_bd (a := g * x1) (b := v1) (A := 16777216000) (B := 16777216) X1b.1 X1b.2 (by omega) (by omega)
    have k8 := fun (h : 1 ≤ v1) => prod_bd (a := g * x2) (b := v2) (A := 16777216000) (B := 16777216) X2b.1 X2b.2 (by omega) (by omega)
    have k9 := fun (h : 1 ≤ v1) => prod_bd (a := g * x1) (b := m - v2) (A := 16777216000) (B := 16777216) X1b.1 X1b.2 (by omega) (by omega)
    have k10 := fun (h : 1 ≤ v1) => prod_bd (a := g * x2) (b := m - v1) (A := 16777216000) (B := 16777216) X2b.1 X2b.2 (by omega) (by omega)
    have kk := Lib.hid (show 1 ≤ v1 → _ from fun h => And.intro (k7 h) (And.intro (k8 h) (And.intro (k9 h) (And.intro (k10 h) (show (0 < 1000 * m ∧ 1000 * m ≤ 16777216000) ∧ ((0 ≤ m - v2 ∧ m - v2 ≤ 16777216) ∧ 0 ≤ m - v1 ∧ m - v1 ≤ 16777216) ∧ (0 ≤ g * x1 ∧ g * x1 ≤ 16777216000) ∧ 0 ≤ g * x2 ∧ g * x2 ≤ 16777216000 from by omega)))))
    clear k7 k8 k9 k10 hv1 hv2 a1 a2 a3 a4 a5 a6 a7 a8 a9 a10 g0 g1 xa xb xc ha hb hc X1b X2b
    have c0' := fun d os => cell_regrown c0 d os
    have c1' := fun d os => cell_regrown c1 d os
    have c4' := fun d os => cell_regrown c4 d os
    have c5' := fun d os => cell_regrown c5 d os
    go_upto_region 3 with fail
    refine wp_region_one_below 21 5 23 #[.int .i64 0, .int .i64 0] (by kernel_rfl) (by kernel_rfl) ⟨_, rfl, rfl, rfl, fun a w => by kernel_rfl⟩ (by kernel_rfl) (by kernel_rfl) ?_
    simp only [List.take_succ_cons, List.take_zero, List.drop_succ_cons, List.drop_zero]
    repeat ((refine wpCalm_step (fun K hK => ?_)); go_simp; first | (refine hK _ ?_; clear hK K) | fail)
    (refine wpCalm_step (fun K hK => ?_)); go_simp; (apply Exists.intro; refine ⟨fun _ => ?_, hK _ ?_⟩; (first | (go_at_call 55; exact calm_call (fun W1 _ => k3.out W1))); clear hK K)
    repeat ((refine wpCalm_step (fun K hK => ?_)); go_simp; first | (refine hK _ ?_; clear hK K) | fail)
    (refine wpCalm_step (fun K hK => ?_)); go_simp; (apply Exists.intro; refine ⟨fun _ => ?_, hK _ ?_⟩; (first | (go_at_call 56; exact calm_call (fun W1 _ => k4.out W1))); clear hK K)
    repeat ((refine wpCalm_step (fun K hK => ?_)); go_simp; first | (refine hK _ ?_; clear hK K) | fail)
    refine wpCalm_nil ?_
    intro W2 g5 hb b5 hg5
    simp only [Act.put, List.setIfInBounds_toArray, List.set_cons_zero, List.set_cons_succ]
    have hn5 : w.heap.size + 1 + 1 < g5 := by omega
    replace b0 := b0.below hb b0.lt
    replace b1 := b1.below hb b1.lt
    replace b2 := b2.below hb b2.lt
    replace hB := hB.trans (hb.mono hB.size)
    clear hb hg5 n2 k3 k4 r1 r2 r3 r4 c0 c1 c2 c3 c4 c5 c0' c1' c4' c5'
    obtain ⟨x0, x1', x2', x3⟩ := b5.facts2
    go_upto_region 4 with fail
    refine wp_world (fun W => Below w.heap.size w W ∧ Blk W w.heap.size 25 #[.int .i64 g, .int .i64 m, .int .i64 x1, .int .i64 x2, .int .i64 h1, .int .i64 h2] ∧ Blk W (w.heap.size + 1) 27 #[.int .i64 0, .int .i64 0, .int .i64 0, .int .i64 0] ∧ Blk W (w.heap.size + 1 + 1) 23 #[.int .i64 0, .int .i64 0] ∧ Blk W g5 23 #[.int .i64 v1, .int .i64 v2])
      ⟨belowp hB (by omega), b0.farp (by omega), b1.farp (by omega), b2.farp (by omega), b5.setp⟩ ?_
    clear hB b0 b1 b2 b5 x0 x1' x2' x3
    rintro W3 ⟨hB, b0, b1, b2, b5⟩
    obtain ⟨c0, c1, c2, c3, c4, c5⟩ := b0.facts6
    obtain ⟨v0_, v1_, _, _⟩ := b5.facts2
    have n2 := b2.lt
    by_cases hlo : v1 < 1
    · have q1 : decide (v1 < 1) = true := by simpa using hlo
      replace hsh := Lib.hid (hsh.out hlo)
      clear hyes kk hlo b0 b5 c0 c1 c2 c3 c4 c5
      obtain ⟨y0, y1, y2, y3, f0, f1, f2, f3⟩ := b1.facts4
      obtain ⟨z0, z1, e0, e1⟩ := b2.facts2
      go_wp2_with fail
      refine ret_world (fun W => Below w.heap.size w W ∧ Blk W (w.heap.size + 1) 27 #[.int .i64 0, .int .i64 0, .int .i64 0, .int .i64 0] ∧ Blk W (w.heap.size + 1 + 1) 23 #[.int .i64 0, .int .i64 0]) ⟨belowp (belowp (belowp hB (by omega)) (by omega)) (by omega), b1.set4.farp (by omega), ((b2.farp (by omega)).farp (by omega)).setp⟩ ?_
      clear hB b1 b2 v0_ v1_ y0 y1 y2 y3 f0 f1 f2 f3 z0 z1 e0 e1
      rintro W ⟨hB, b1, b2⟩
      obtain ⟨y0, y1, y2, y3, _, _, _, _⟩ := b1.facts4
      obtain ⟨z0, z1, _, _⟩ := b2.facts2
      exact bodyPost_ret (v := .tuple #[.agg #[.int .i64 0, .int .i64 0, .int .i64 0, .int .i64 0], .agg #[.int .i64 0, .int .i64 0], .int .i64 10]) (by simp [results, Try.results17, go_sem, y0, y1, y2, y3, z0, z1]) rfl (hsh.out _ hB)
    have q1 : decide (v1 < 1) = false := by simpa using hlo
    replace hyes := Lib.hid (hyes.out (by omega))
    obtain ⟨⟨ya, yb⟩, ⟨yc, yd⟩, ⟨ye, yf⟩, ⟨yg, yh⟩, ⟨ma, mb⟩, ⟨⟨mc, mi⟩, mj, md⟩, ⟨me, mf⟩, mg, mh⟩ := kk.out (by omega)
    generalize hS1 : g * x1 * v1 / (1000 * m) = S1 at *
    generalize hS2 : upQ (g * x2 * v2) (1000 * m) = S2 at *
    generalize hL1 : g * x1 * (m - v2) / (1000 * m) = L1 at *
    generalize hL2 : upQ (g * x2 * (m - v1)) (1000 * m) = L2 at *
    have j1 := Lib.hid fun W => rdown_any (g * x1 * v1) (1000 * m) S1 W (by omega) (by omega) (Lib.hid hS1)
    have j2 := Lib.hid fun W => rup_any (g * x2 * v2) (1000 * m) S2 W (by omega) (by omega) (Lib.hid hS2)
    have j3 := Lib.hid fun W => rdown_any (g * x1 * (m - v2)) (1000 * m) L1 W (by omega) (by omega) (Lib.hid hL1)
    have j4 := Lib.hid fun W => rup_any (g * x2 * (m - v1)) (1000 * m) L2 W (by omega) (by omega) (Lib.hid hL2)
    have r1 : IntKind.i64.wrap (1000 * m) = 1000 * m := IntWalk.i64_in _ (by omega)
    have r2 : IntKind.i64.wrap (g * x1) = g * x1 := IntWalk.i64_in _ (by omega)
    have r3 : IntKind.i64.wrap (g * x2) = g * x2 := IntWalk.i64_in _ (by omega)
    have r4 : IntKind.i64.wrap (g * x1 * v1) = g * x1 * v1 := IntWalk.i64_in _ (by omega)
    have r5 : IntKind.i64.wrap (g * x2 * v2) = g * x2 * v2 := IntWalk.i64_in _ (by omega)
    have r6 : IntKind.i64.wrap (m - v2) = m - v2 := IntWalk.i64_in _ (by omega)
    have r7 : IntKind.i64.wrap (m - v1) = m - v1 := IntWalk.i64_in _ (by omega)
    have r8 : IntKind.i64.wrap (g * x1 * (m - v2)) = g * x1 * (m - v2) := IntWalk.i64_in _ (by omega)
    have r9 : IntKind.i64.wrap (g * x2 * (m - v1)) = g * x2 * (m - v1) := IntWalk.i64_in _ (by omega)
    clear hsh kk hlo ya yb yc yd ye yf yg yh ma mb mc mi mj md me mf mg mh hS1 hS2 hL1 hL2 m0 m1
    go_upto_region 7 with fail
    have c0' := fun d os => cell_regrown c0 d os
    have c1' := fun d os => cell_regrown c1 d os
    have c2' := fun d os => cell_regrown c2 d os
    have c3' := fun d os => cell_regrown c3 d os
    have c4' := fun d os => cell_regrown c4 d os
    have c5' := fun d os => cell_regrown c5 d os
    have v0_' := fun d os => cell_regrown v0_ d os
    have v1_' := fun d os => cell_regrown v1_ d os
    refine wp_region_one_below 23 7 23 #[.int .i64 0, .int .i64 0] (by kernel_rfl) (by kernel_rfl) ⟨_, rfl, rfl, rfl, fun a w => by kernel_rfl⟩ (by kernel_rfl) (by kernel_rfl) ?_
    simp only [List.take_succ_cons, List.take_zero, List.drop_succ_cons, List.drop_zero]
    repeat ((refine wpCalm_step (fun K hK => ?_)); go_simp; first | (refine hK _ ?_; clear hK K) | fail)
    (refine wpCalm_step (fun K hK => ?_)); go_simp; (apply Exists.intro; refine ⟨fun _ => ?_, hK _ ?_⟩; (first | (go_at_call 56; exact calm_call (fun W1 _ => j1.out W1))); clear hK K)
    repeat ((refine wpCalm_step (fun K hK => ?_)); go_simp; first | (refine hK _ ?_; clear hK K) | fail)
    (refine wpCalm_step (fun K hK => ?_)); go_simp; (apply Exists.intro; refine ⟨fun _ => ?_, hK _ ?_⟩; (first | (go_at_call 55; exact calm_call (fun W1 _ => j2.out W1))); clear hK K)
    repeat ((refine wpCalm_step (fun K hK => ?_)); go_simp; first | (refine hK _ ?_; clear hK K) | fail)
    refine wpCalm_nil ?_
    intro W4 g7 hb b7 hg_
    simp only [Act.put, List.setIfInBounds_toArray, List.set_cons_zero, List.set_cons_succ]
    have hn_g7 : w.heap.size + 1 + 1 < g7 := by have := b2.lt; omega
    have ne_b5 : g5 ≠ g7 := by have := b5.lt; omega
    replace b0 := b0.below hb b0.lt
    replace b1 := b1.below hb b1.lt
    replace b2 := b2.below hb b2.lt
    replace b5 := b5.below hb b5.lt
    replace hB := hB.trans (hb.mono hB.size)
    clear hb hg_ j1 j2 c0 c1 c2 c3 c4 c5 v0_ v1_ c0' c1' c2' c3' c4' c5' v0_' v1_'
    obtain ⟨p0, p1, p2, p3⟩ := b7.facts2
    go_upto_region 8 with fail
    refine wp_world (fun W => Below w.heap.size w W ∧ Blk W w.heap.size 25 #[.int .i64 g, .int .i64 m, .int .i64 x1, .int .i64 x2, .int .i64 h1, .int .i64 h2] ∧ Blk W (w.heap.size + 1) 27 #[.int .i64 0, .int .i64 0, .int .i64 0, .int .i64 0] ∧ Blk W (w.heap.size + 1 + 1) 23 #[.int .i64 0, .int .i64 0] ∧ Blk W g5 23 #[.int .i64 v1, .int .i64 v2] ∧ Blk W g7 23 #[.int .i64 S1, .int .i64 S2]) ⟨belowp hB (by omega), b0.farp (by omega), b1.farp (by omega), b2.farp (by omega), b5.farp ne_b5, b7.setp⟩ ?_
    clear hB b0 b1 b2 b5 b7 p0 p1 p2 p3 ne_b5
    rintro W5 ⟨hB, b0, b1, b2, b5, b7⟩
    obtain ⟨c0, c1, c2, c3, c4, c5⟩ := b0.facts6
    obtain ⟨v0_, v1_, _, _⟩ := b5.facts2
    have c0' := fun d os => cell_regrown c0 d os
    have c1' := fun d os => cell_regrown c1 d os
    have c2' := fun d os => cell_regrown c2 d os
    have c3' := fun d os => cell_regrown c3 d os
    have c4' := fun d os => cell_regrown c4 d os
    have c5' := fun d os => cell_regrown c5 d os
    have v0_' := fun d os => cell_regrown v0_ d os
    have v1_' := fun d os => cell_regrown v1_ d os
    refine wp_region_one_below 29 8 23 #[.int .i64 0, .int .i64 0] (by kernel_rfl) (by kernel_rfl) ⟨_, rfl, rfl, rfl, fun a w => by kernel_rfl⟩ (by kernel_rfl) (by kernel_rfl) ?_
    simp only [List.take_succ_cons, List.take_zero, List.drop_succ_cons, List.drop_zero]
    repeat ((refine wpCalm_step (fun K hK => ?_)); go_simp; first | (refine hK _ ?_; clear hK K) | fail)
    (refine wpCalm_step (fun K hK => ?_)); go_simp; (apply Exists.intro; refine ⟨fun _ => ?_, hK _ ?_⟩; (first | (go_at_call 56; exact calm_call (fun W1 _ => j3.out W1))); clear hK K)
    repeat ((refine wpCalm_step (fun K hK => ?_)); go_simp; first | (refine hK _ ?_; clear hK K) | fail)
    (refine wpCalm_step (fun K hK => ?_)); go_simp; (apply Exists.intro; refine ⟨fun _ => ?_, hK _ ?_⟩; (first | (go_at_call 55; exact calm_call (fun W1 _ => j4.out W1))); clear hK K)
    repeat ((refine wpCalm_step (fun K hK => ?_)); go_simp; first | (refine hK _ ?_; clear hK K) | fail)
    refine wpCalm_nil ?_
    intro W6 g8 hb b8 hg_
    simp only [Act.put, List.setIfInBounds_toArray, List.set_cons_zero, List.set_cons_succ]
    have hn_g8 : w.heap.size + 1 + 1 < g8 := by have := b2.lt; omega
    have ne_b5 : g5 ≠ g8 := by have := b5.lt; omega
    have ne_b7 : g7 ≠ g8 := by have := b7.lt; omega
    replace b0 := b0.below hb b0.lt
    replace b1 := b1.below hb b1.lt
    replace b2 := b2.below hb b2.lt
    replace b5 := b5.below hb b5.lt
    replace b7 := b7.below hb b7.lt
    replace hB := hB.trans (hb.mono hB.size)
    clear hb hg_ j3 j4 c0 c1 c2 c3 c4 c5 v0_ v1_ c0' c1' c2' c3' c4' c5' v0_' v1_'
    obtain ⟨p0, p1, p2, p3⟩ := b8.facts2
    go_upto_region 9 with fail
    refine wp_world (fun W => Below w.heap.size w W ∧ Blk W w.heap.size 25 #[.int .i64 g, .int .i64 m, .int .i64 x1, .int .i64 x2, .int .i64 h1, .int .i64 h2] ∧ Blk W (w.heap.size + 1) 27 #[.int .i64 0, .int .i64 0, .int .i64 0, .int .i64 0] ∧ Blk W (w.heap.size + 1 + 1) 23 #[.int .i64 0, .int .i64 0] ∧ Blk W g5 23 #[.int .i64 v1, .int .i64 v2] ∧ Blk W g7 23 #[.int .i64 S1, .int .i64 S2] ∧ Blk W g8 23 #[.int .i64 L1, .int .i64 L2]) ⟨belowp hB (by omega), b0.farp (by omega), b1.farp (by omega), b2.farp (by omega), b5.farp ne_b5, b7.farp ne_b7, b8.setp⟩ ?_
    clear hB b0 b1 b2 b5 b7 b8 p0 p1 p2 p3 ne_b5 ne_b7
    rintro W7 ⟨hB, b0, b1, b2, b5, b7, b8⟩
    clear r1 r2 r3 r4 r5 r6 r7 r8 r9 b0 q1 n2
    have n2 := b2.lt
    have n8 := b8.lt
    have ne82 : ¬ g8 = w.heap.size + 1 := by omega
    obtain ⟨v0, v1', _, _⟩ := b5.facts2
    obtain ⟨s0, s1, _, _⟩ := b7.facts2
    obtain ⟨l0, l1, _, _⟩ := b8.facts2
    obtain ⟨y0, y1, y2, y3, f0, f1, f2, f3⟩ := b1.facts4
    obtain ⟨z0, z1, e0, e1⟩ := b2.facts2
    go_region
    go_wp2
    refine ret_world (fun W => Below w.heap.size w W ∧ Blk W (w.heap.size + 1) 27 #[.int .i64 S1, .int .i64 S2, .int .i64 v1, .int .i64 v2] ∧ Blk W (w.heap.size + 1 + 1) 23 #[.int .i64 L1, .int .i64 L2]) ⟨(belowp (belowp (belowp hB (by omega)) (by omega)) (by omega)).drew, (b1.set4.farp (by omega)).drew, (((b2.farp (by omega)).farp (by omega)).setp).drew⟩ ?_
    clear hB b1 b2 b5 b7 b8 v0 v1' s0 s1 l0 l1 y0 y1 y2 y3 f0 f1 f2 f3 z0 z1 e0 e1
    rintro W ⟨hB, b1, b2⟩
    obtain ⟨y0, y1, y2, y3, _, _, _, _⟩ := b1.facts4
    obtain ⟨z0, z1, _, _⟩ := b2.facts2
    exact bodyPost_ret (v := .tuple #[.agg #[.int .i64 S1, .int .i64 S2, .int .i64 v1, .int .i64 v2], .agg #[.int .i64 L1, .int .i64 L2], .int .i64 0]) (by simp [results, Try.results17, go_sem, y0, y1, y2, y3, z0, z1]) rfl (hyes.out _ hB)
end Go.Proofs.Ytjcadgklamhohaa
