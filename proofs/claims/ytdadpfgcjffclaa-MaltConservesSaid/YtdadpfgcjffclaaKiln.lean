/- What kilning returns, or that it stops. -/
import Derived.Test.YtdadpfgcjffclaaGrain
namespace Go.Proofs.Ytdadpfgcjffclaa
open Go.RowKit Go.Sort
attribute [local go_sem] Oper.calm Oper.calmAt Oper.calmUpon

set_option maxHeartbeats 1000000 in
set_option maxRecDepth 100000 in
theorem kiln_ok (d1 d2 w1 w2 p1 p2 t1 t2 g1 g2 r1 r2 s1 s2 x y u v m zz : Int) (w : World) (hd : SpOk d1 d2 1099511627776) (hw : SpOk w1 w2 1099511627776) (hp : SpOk p1 p2 1099511627776) (ht : SpOk t1 t2 1099511627776) (hg : SpOk g1 g2 1099511627776) (hr : SpOk r1 r2 1099511627776) (hs : SpOk s1 s2 1099511627776) (h : SpOk x y 10000) (hu : Hid (upQ (x * d1) 10000 = u)) (hv : Hid (y * d2 / 10000 = v)) (hm : Hid (min v w2 = m)) (hz : Hid (max (w1 - m) 0 = zz)) (q : u ≤ m) :
    Calls Try.prog 74 #[.agg #[.int .i64 d1, .int .i64 d2, .int .i64 w1, .int .i64 w2, .int .i64 p1, .int .i64 p2, .int .i64 t1, .int .i64 t2, .int .i64 g1, .int .i64 g2, .int .i64 r1, .int .i64 r2, .int .i64 s1, .int .i64 s2], .agg #[.int .i64 x, .int .i64 y]] w fun e w' => e = .returned (.agg #[.int .i64 d1, .int .i64 d2, .int .i64 u, .int .i64 m, .int .i64 p1, .int .i64 p2, .int .i64 t1, .int .i64 t2, .int .i64 g1, .int .i64 g2, .int .i64 r1, .int .i64 r2, .int .i64 (s1 + zz), .int .i64 (s2 + (w2 - u))]) ∧ Below w.heap.size w w' := by
  obtain ⟨hd0, hd1, hd2⟩ := hd
  obtain ⟨hw0, hw1, hw2⟩ := hw
  obtain ⟨hp0, hp1, hp2⟩ := hp
  obtain ⟨ht0, ht1, ht2⟩ := ht
  obtain ⟨hg0, hg1, hg2⟩ := hg
  obtain ⟨hr0, hr1, hr2⟩ := hr
  obtain ⟨hs0, hs1, hs2⟩ := hs
  obtain ⟨hx0, hx1, hx2⟩ := h
  have e1 := prod_bd hx0 (show x ≤ 10000 by omega) hd0 (show d1 ≤ 1099511627776 by omega)
  have e2 := prod_bd (show 0 ≤ y by omega) hx2 (show 0 ≤ d2 by omega) hd2
  have ub := upQ_bd (b := 10000) (by omega) e1.1
  rw [hu.out] at ub
  have k1 := Lib.hid fun W => share_any d1 d2 x y 10000 u v W e1.1 e2.1 (by omega) (by omega) (by omega) hu hv
  have hm' := hm.out
  have hz' := hz.out
  have k2 := Lib.hid fun W => know_ok u v W (by omega)
  have k3 := Lib.hid fun W => atMost_ok u v w2 m W (by omega) hm
  have k4 := Lib.hid fun W => less_ok w1 w2 u m zz W (by omega) (by omega) (by omega) hz
  have k5 := Lib.hid fun W => plus_ok s1 s2 zz (w2 - u) W (by omega) (by omega) (by omega)
  clear e1 e2 hu hv hm hz hm' hz'
  go_enter Try.func74, Try.ntmps74
  go_upto_region 1 with fail
  refine wp_world (fun W => Below w.heap.size w W ∧ Blk W w.heap.size 75 #[.int .i64 d1, .int .i64 d2, .int .i64 w1, .int .i64 w2, .int .i64 p1, .int .i64 p2, .int .i64 t1, .int .i64 t2, .int .i64 g1, .int .i64 g2, .int .i64 r1, .int .i64 r2, .int .i64 s1, .int .i64 s2] ∧ Blk W (w.heap.size + 1) 73 #[.int .i64 x, .int .i64 y] ∧ Blk W (w.heap.size + 1 + 1) 75 #[.int .i64 0, .int .i64 0, .int .i64 0, .int .i64 0, .int .i64 0, .int .i64 0, .int .i64 0, .int .i64 0, .int .i64 0, .int .i64 0, .int .i64 0, .int .i64 0, .int .i64 0, .int .i64 0])
    ⟨(((Below.refl _ _).alloc (Nat.le_refl _) _).alloc (by simp) _).alloc (by simp; omega) _, ((Blk.new _ _ _).alloc _).alloc _, (blk_at (by simp)).alloc _, blk_at (by simp)⟩ ?_
  rintro W0 ⟨hB0, b0, b1, b2⟩
  obtain ⟨c0, c1, c2, c3, c4, c5, c6, c7, c8, c9, c10, c11, c12, c13⟩ := b0.facts14
  obtain ⟨e0, e1, _, _⟩ := b1.facts2
  have c0' := fun d os => cell_regrown c0 d os
  have c1' := fun d os => cell_regrown c1 d os
  have c3' := fun d os => cell_regrown c3 d os
  have e0' := fun d os => cell_regrown e0 d os
  have e1' := fun d os => cell_regrown e1 d os
  refine wp_region_one_below 12 5 73 #[.int .i64 0, .int .i64 0] (by kernel_rfl) (by kernel_rfl) ⟨_, rfl, rfl, rfl, fun a w => by kernel_rfl⟩ (by kernel_rfl) (by kernel_rfl) ?_
  simp only [List.take_succ_cons, List.take_zero, List.drop_succ_cons, List.drop_zero]
  repeat ((refine wpCalm_step (fun K hK => ?_)); go_simp; first | (refine hK _ ?_; clear hK K) | fail)
  (refine wpCalm_step (fun K hK => ?_)); go_simp; (apply Exists.intro; refine ⟨fun _ => ?_, hK _ ?_⟩; (first | (go_at_call 73; exact calm_call (fun W1 _ => k1.out W1))); clear hK K)
  repeat ((refine wpCalm_step (fun K hK => ?_)); go_simp; first | (refine hK _ ?_; clear hK K) | fail)
  (refine wpCalm_step (fun K hK => ?_)); go_simp; (apply Exists.intro; refine ⟨fun _ => ?_, hK _ ?_⟩; (first | (go_at_call 66; exact calm_call (fun W1 _ => k2.out W1))); clear hK K)
  repeat ((refine wpCalm_step (fun K hK => ?_)); go_simp; first | (refine hK _ ?_; clear hK K) | fail)
  (refine wpCalm_step (fun K hK => ?_)); go_simp; (apply Exists.intro; refine ⟨fun _ => ?_, hK _ ?_⟩; (first | (go_at_call 75; exact calm_call (fun W1 _ => k3.out W1))); clear hK K)
  repeat ((refine wpCalm_step (fun K hK => ?_)); go_simp; first | (refine hK _ ?_; clear hK K) | fail)
  refine wpCalm_nil ?_
  intro W1 g5 hb hV hg5
  simp only [Act.put, List.setIfInBounds_toArray, List.set_cons_zero, List.set_cons_succ]
  have n0 := b2.lt
  replace b0 := b0.below hb b0.lt
  replace b2 := b2.below hb b2.lt
  have hB := hB0.trans (hb.mono hB0.size)
  have hg0 : w.heap.size ≠ g5 := by omega
  have hg2 : w.heap.size + 1 + 1 ≠ g5 := by omega
  clear hb hB0 b1 e0 e1 e0' e1' c0 c1 c2 c3 c4 c5 c6 c7 c8 c9 c10 c11 c12 c13 c0' c1' c3' k1 k2 k3
  obtain ⟨e0, e1, e2, e3⟩ := hV.facts2
  have hgw : w.heap.size ≤ g5 := by have := hB.size; omega
  go_upto_region 2 with fail
  refine wp_world (fun W => Below w.heap.size w W ∧ Blk W w.heap.size 75 #[.int .i64 d1, .int .i64 d2, .int .i64 w1, .int .i64 w2, .int .i64 p1, .int .i64 p2, .int .i64 t1, .int .i64 t2, .int .i64 g1, .int .i64 g2, .int .i64 r1, .int .i64 r2, .int .i64 s1, .int .i64 s2] ∧ Blk W (w.heap.size + 1 + 1) 75 #[.int .i64 0, .int .i64 0, .int .i64 0, .int .i64 0, .int .i64 0, .int .i64 0, .int .i64 0, .int .i64 0, .int .i64 0, .int .i64 0, .int .i64 0, .int .i64 0, .int .i64 0, .int .i64 0] ∧ Blk W g5 73 #[.int .i64 u, .int .i64 m])
    ⟨belowp hB hgw, b0.farp hg0, b2.farp hg2, (hV.set_ 0 _).set_ 1 _⟩ ?_
  clear hB b0 b2 hV e0 e1 e2 e3
  rintro W0 ⟨hB0, b0, b2, b1⟩
  obtain ⟨c0, c1, c2, c3, c4, c5, c6, c7, c8, c9, c10, c11, c12, c13⟩ := b0.facts14
  obtain ⟨e0, e1, _, _⟩ := b1.facts2
  have c2' := fun d os => cell_regrown c2 d os
  have c3' := fun d os => cell_regrown c3 d os
  have c12' := fun d os => cell_regrown c12 d os
  have c13' := fun d os => cell_regrown c13 d os
  have e0' := fun d os => cell_regrown e0 d os
  have e1' := fun d os => cell_regrown e1 d os
  refine wp_region_below_tail 9 (by kernel_rfl) (by kernel_rfl) ?_
  simp only [List.take_succ_cons, List.take_zero, List.drop_succ_cons, List.drop_zero]
  repeat (quiet_step (fail))
  quiet_step (first | (go_at_call 76; exact quiet_call (fun W1 _ => k4.out W1)))
  repeat (quiet_step (fail))
  quiet_step (first | (go_at_call 71; exact quiet_call (fun W1 _ => k5.out W1)))
  repeat (quiet_step (fail))
  refine wpQuiet_nil ?_
  intro _ hw'
  obtain ⟨⟨dq, osq⟩, hw''⟩ := hw'
  subst hw''
  have hb := below_regrown W0 dq osq
  replace b0 := b0.below hb b0.lt
  replace b1 := b1.below hb b1.lt
  replace b2 := b2.below hb b2.lt
  have hB := hB0.trans (hb.mono hB0.size)
  clear hb hB0 e0 e1 e0' e1' c0 c1 c2 c3 c4 c5 c6 c7 c8 c9 c10 c11 c12 c13 c2' c3' c12' c13' k4 k5
  generalize grow (redrawn W0 dq) osq = W1 at *
  obtain ⟨c0, c1, c2, c3, c4, c5, c6, c7, c8, c9, c10, c11, c12, c13⟩ := b0.facts14
  obtain ⟨f0, f1, f2, f3, f4, f5, f6, f7, f8, f9, f10, f11, f12, f13⟩ := b0.frozen14
  go_upto_region 3 with fail
  refine wp_world (fun W => Below w.heap.size w W ∧ Blk W w.heap.size 75 #[.int .i64 d1, .int .i64 d2, .int .i64 u, .int .i64 m, .int .i64 p1, .int .i64 p2, .int .i64 t1, .int .i64 t2, .int .i64 g1, .int .i64 g2, .int .i64 r1, .int .i64 r2, .int .i64 (s1 + zz), .int .i64 (s2 + (w2 - u))] ∧ Blk W (w.heap.size + 1 + 1) 75 #[.int .i64 0, .int .i64 0, .int .i64 0, .int .i64 0, .int .i64 0, .int .i64 0, .int .i64 0, .int .i64 0, .int .i64 0, .int .i64 0, .int .i64 0, .int .i64 0, .int .i64 0, .int .i64 0])
    ⟨belowp (belowp hB (by omega)) (by omega), b0.pair1.pair6, (b2.farp (by omega)).farp (by omega)⟩ ?_
  clear hB b0 b1 b2 c0 c1 c2 c3 c4 c5 c6 c7 c8 c9 c10 c11 c12 c13 f0 f1 f2 f3 f4 f5 f6 f7 f8 f9 f10 f11 f12 f13
  rintro W2 ⟨hB, b0, b2⟩
  obtain ⟨c0, c1, c2, c3, c4, c5, c6, c7, c8, c9, c10, c11, c12, c13⟩ := b0.facts14
  obtain ⟨f0, f1, f2, f3, f4, f5, f6, f7, f8, f9, f10, f11, f12, f13⟩ := b2.frozen14
  obtain ⟨z0, z1, z2, z3, z4, z5, z6, z7, z8, z9, z10, z11, z12, z13⟩ := b2.facts14
  have n2 := b2.lt
  go_upto_region 3 with fail
  go_wp2
  refine ret_world (fun W => Below w.heap.size w W ∧ Blk W (w.heap.size + 1 + 1) 75 #[.int .i64 d1, .int .i64 d2, .int .i64 u, .int .i64 m, .int .i64 p1, .int .i64 p2, .int .i64 t1, .int .i64 t2, .int .i64 g1, .int .i64 g2, .int .i64 r1, .int .i64 r2, .int .i64 (s1 + zz), .int .i64 (s2 + (w2 - u))]) ⟨below14 hB (by omega), b2.sets14⟩ ?_
  clear hB b0 b2 c0 c1 c2 c3 c4 c5 c6 c7 c8 c9 c10 c11 c12 c13 f0 f1 f2 f3 f4 f5 f6 f7 f8 f9 f10 f11 f12 f13 z0 z1 z2 z3 z4 z5 z6 z7 z8 z9 z10 z11 z12 z13
  rintro W ⟨hB, b2⟩
  obtain ⟨z0, z1, z2, z3, z4, z5, z6, z7, z8, z9, z10, z11, z12, z13⟩ := b2.facts14
  exact bodyPost_ret (v := .agg #[.int .i64 d1, .int .i64 d2, .int .i64 u, .int .i64 m, .int .i64 p1, .int .i64 p2, .int .i64 t1, .int .i64 t2, .int .i64 g1, .int .i64 g2, .int .i64 r1, .int .i64 r2, .int .i64 (s1 + zz), .int .i64 (s2 + (w2 - u))]) (by simp [results, Try.results74, go_sem, z0, z1, z2, z3, z4, z5, z6, z7, z8, z9, z10, z11, z12, z13]) rfl ⟨rfl, hB⟩

set_option maxHeartbeats 1000000 in
set_option maxRecDepth 100000 in
theorem kiln_bad1 (d1 d2 w1 w2 p1 p2 t1 t2 g1 g2 r1 r2 s1 s2 x y u v : Int) (w : World) (hd : SpOk d1 d2 1099511627776) (hw : SpOk w1 w2 1099511627776) (hp : SpOk p1 p2 1099511627776) (ht : SpOk t1 t2 1099511627776) (hg : SpOk g1 g2 1099511627776) (hr : SpOk r1 r2 1099511627776) (hs : SpOk s1 s2 1099511627776) (h : SpOk x y 10000) (hu : Hid (upQ (x * d1) 10000 = u)) (hv : Hid (y * d2 / 10000 = v)) (q : v < u) :
    Calls Try.prog 74 #[.agg #[.int .i64 d1, .int .i64 d2, .int .i64 w1, .int .i64 w2, .int .i64 p1, .int .i64 p2, .int .i64 t1, .int .i64 t2, .int .i64 g1, .int .i64 g2, .int .i64 r1, .int .i64 r2, .int .i64 s1, .int .i64 s2], .agg #[.int .i64 x, .int .i64 y]] w fun e w' => e = .panicked stop ∧ Below w.heap.size w w' := by
  obtain ⟨hd0, hd1, hd2⟩ := hd
  obtain ⟨hw0, hw1, hw2⟩ := hw
  obtain ⟨hp0, hp1, hp2⟩ := hp
  obtain ⟨ht0, ht1, ht2⟩ := ht
  obtain ⟨hg0, hg1, hg2⟩ := hg
  obtain ⟨hr0, hr1, hr2⟩ := hr
  obtain ⟨hs0, hs1, hs2⟩ := hs
  obtain ⟨hx0, hx1, hx2⟩ := h
  have e1 := prod_bd hx0 (show x ≤ 10000 by omega) hd0 (show d1 ≤ 1099511627776 by omega)
  have e2 := prod_bd (show 0 ≤ y by omega) hx2 (show 0 ≤ d2 by omega) hd2
  have ub := upQ_bd (b := 10000) (by omega) e1.1
  rw [hu.out] at ub
  have k1 := Lib.hid fun W => share_any d1 d2 x y 10000 u v W e1.1 e2.1 (by omega) (by omega) (by omega) hu hv
  have k2 := Lib.hid fun W => know_bad u v W q
  have k3 := Lib.hid fun W => atMost_ok 0 0 w2 0 W (by omega) (Lib.hid (by omega))
  clear e1 e2 hu hv
  go_enter Try.func74, Try.ntmps74
  go_upto_region 1 with fail
  refine wp_world (fun W => Below w.heap.size w W ∧ Blk W w.heap.size 75 #[.int .i64 d1, .int .i64 d2, .int .i64 w1, .int .i64 w2, .int .i64 p1, .int .i64 p2, .int .i64 t1, .int .i64 t2, .int .i64 g1, .int .i64 g2, .int .i64 r1, .int .i64 r2, .int .i64 s1, .int .i64 s2] ∧ Blk W (w.heap.size + 1) 73 #[.int .i64 x, .int .i64 y] ∧ Blk W (w.heap.size + 1 + 1) 75 #[.int .i64 0, .int .i64 0, .int .i64 0, .int .i64 0, .int .i64 0, .int .i64 0, .int .i64 0, .int .i64 0, .int .i64 0, .int .i64 0, .int .i64 0, .int .i64 0, .int .i64 0, .int .i64 0])
    ⟨(((Below.refl _ _).alloc (Nat.le_refl _) _).alloc (by simp) _).alloc (by simp; omega) _, ((Blk.new _ _ _).alloc _).alloc _, (blk_at (by simp)).alloc _, blk_at (by simp)⟩ ?_
  rintro W0 ⟨hB0, b0, b1, b2⟩
  obtain ⟨c0, c1, c2, c3, c4, c5, c6, c7, c8, c9, c10, c11, c12, c13⟩ := b0.facts14
  obtain ⟨e0, e1, _, _⟩ := b1.facts2
  have c0' := fun d os => cell_regrown c0 d os
  have c1' := fun d os => cell_regrown c1 d os
  have c3' := fun d os => cell_regrown c3 d os
  have e0' := fun d os => cell_regrown e0 d os
  have e1' := fun d os => cell_regrown e1 d os
  refine wp_region_die_one_below 12 6 5 stop 73 #[.int .i64 0, .int .i64 0] (by kernel_rfl) (by kernel_rfl) (by omega) ⟨_, rfl, rfl, rfl, fun a w => by kernel_rfl⟩ (by kernel_rfl) (by kernel_rfl) (fun a' w' h1 h2 => ⟨h1, rfl, hB0.trans (h2.mono hB0.size)⟩) ?_
  simp only [List.take_succ_cons, List.take_zero]
  repeat (refine wpDie_step (by rfl) (fun K hK => ?_); go_simp; first | (refine hK _ ?_; clear hK K) | (apply Exists.intro; refine ⟨fun _ => ?_, hK _ ?_⟩; (fail); clear hK K))
  (refine wpDie_step (by rfl) (fun K hK => ?_); go_simp; first | (refine hK _ ?_; clear hK K) | (apply Exists.intro; refine ⟨fun _ => ?_, hK _ ?_⟩; (first | (go_at_call 73; exact calm_call (fun W1 _ => k1.out W1))); clear hK K))
  repeat (refine wpDie_step (by rfl) (fun K hK => ?_); go_simp; first | (refine hK _ ?_; clear hK K) | (apply Exists.intro; refine ⟨fun _ => ?_, hK _ ?_⟩; (fail); clear hK K))
  refine wpDie_here (.agg #[.int .i64 0, .int .i64 0]) (by rfl) (fun w' hw' => ?_) ?_
  · obtain ⟨⟨dq, osq⟩, hw''⟩ := hw'
    subst hw''
    refine ⟨_, _, ?_, die_call (fun W1 _ => k2.out W1)⟩
    first | rfl | simp [go_sem]
  repeat (refine wpDie_step (by rfl) (fun K hK => ?_); go_simp; first | (refine hK _ ?_; clear hK K) | (apply Exists.intro; refine ⟨fun _ => ?_, hK _ ?_⟩; (fail); clear hK K))
  (refine wpDie_step (by rfl) (fun K hK => ?_); go_simp; first | (refine hK _ ?_; clear hK K) | (apply Exists.intro; refine ⟨fun _ => ?_, hK _ ?_⟩; (first | (go_at_call 75; exact calm_call (fun W1 _ => k3.out W1))); clear hK K))
  repeat (refine wpDie_step (by rfl) (fun K hK => ?_); go_simp; first | (refine hK _ ?_; clear hK K) | (apply Exists.intro; refine ⟨fun _ => ?_, hK _ ?_⟩; (fail); clear hK K))
  exact wpDie_nil trivial

set_option maxHeartbeats 1000000 in
set_option maxRecDepth 100000 in
theorem kiln_bad2 (d1 d2 w1 w2 p1 p2 t1 t2 g1 g2 r1 r2 s1 s2 x y u v : Int) (w : World) (hd : SpOk d1 d2 1099511627776) (hw : SpOk w1 w2 1099511627776) (hp : SpOk p1 p2 1099511627776) (ht : SpOk t1 t2 1099511627776) (hg : SpOk g1 g2 1099511627776) (hr : SpOk r1 r2 1099511627776) (hs : SpOk s1 s2 1099511627776) (h : SpOk x y 10000) (hu : Hid (upQ (x * d1) 10000 = u)) (hv : Hid (y * d2 / 10000 = v)) (q : min v w2 < u) (q' : u ≤ v) :
    Calls Try.prog 74 #[.agg #[.int .i64 d1, .int .i64 d2, .int .i64 w1, .int .i64 w2, .int .i64 p1, .int .i64 p2, .int .i64 t1, .int .i64 t2, .int .i64 g1, .int .i64 g2, .int .i64 r1, .int .i64 r2, .int .i64 s1, .int .i64 s2], .agg #[.int .i64 x, .int .i64 y]] w fun e w' => e = .panicked stop ∧ Below w.heap.size w w' := by
  obtain ⟨hd0, hd1, hd2⟩ := hd
  obtain ⟨hw0, hw1, hw2⟩ := hw
  obtain ⟨hp0, hp1, hp2⟩ := hp
  obtain ⟨ht0, ht1, ht2⟩ := ht
  obtain ⟨hg0, hg1, hg2⟩ := hg
  obtain ⟨hr0, hr1, hr2⟩ := hr
  obtain ⟨hs0, hs1, hs2⟩ := hs
  obtain ⟨hx0, hx1, hx2⟩ := h
  have e1 := prod_bd hx0 (show x ≤ 10000 by omega) hd0 (show d1 ≤ 1099511627776 by omega)
  have e2 := prod_bd (show 0 ≤ y by omega) hx2 (show 0 ≤ d2 by omega) hd2
  have ub := upQ_bd (b := 10000) (by omega) e1.1
  rw [hu.out] at ub
  have k1 := Lib.hid fun W => share_any d1 d2 x y 10000 u v W e1.1 e2.1 (by omega) (by omega) (by omega) hu hv
  have k2 := Lib.hid fun W => know_ok u v W q'
  have k3 := Lib.hid fun W => atMost_bad u v w2 W q
  clear e1 e2 hu hv
  go_enter Try.func74, Try.ntmps74
  go_upto_region 1 with fail
  refine wp_world (fun W => Below w.heap.size w W ∧ Blk W w.heap.size 75 #[.int .i64 d1, .int .i64 d2, .int .i64 w1, .int .i64 w2, .int .i64 p1, .int .i64 p2, .int .i64 t1, .int .i64 t2, .int .i64 g1, .int .i64 g2, .int .i64 r1, .int .i64 r2, .int .i64 s1, .int .i64 s2] ∧ Blk W (w.heap.size + 1) 73 #[.int .i64 x, .int .i64 y] ∧ Blk W (w.heap.size + 1 + 1) 75 #[.int .i64 0, .int .i64 0, .int .i64 0, .int .i64 0, .int .i64 0, .int .i64 0, .int .i64 0, .int .i64 0, .int .i64 0, .int .i64 0, .int .i64 0, .int .i64 0, .int .i64 0, .int .i64 0])
    ⟨(((Below.refl _ _).alloc (Nat.le_refl _) _).alloc (by simp) _).alloc (by simp; omega) _, ((Blk.new _ _ _).alloc _).alloc _, (blk_at (by simp)).alloc _, blk_at (by simp)⟩ ?_
  rintro W0 ⟨hB0, b0, b1, b2⟩
  obtain ⟨c0, c1, c2, c3, c4, c5, c6, c7, c8, c9, c10, c11, c12, c13⟩ := b0.facts14
  obtain ⟨e0, e1, _, _⟩ := b1.facts2
  have c0' := fun d os => cell_regrown c0 d os
  have c1' := fun d os => cell_regrown c1 d os
  have c3' := fun d os => cell_regrown c3 d os
  have e0' := fun d os => cell_regrown e0 d os
  have e1' := fun d os => cell_regrown e1 d os
  refine wp_region_die_one_below 12 11 5 stop 73 #[.int .i64 0, .int .i64 0] (by kernel_rfl) (by kernel_rfl) (by omega) ⟨_, rfl, rfl, rfl, fun a w => by kernel_rfl⟩ (by kernel_rfl) (by kernel_rfl) (fun a' w' h1 h2 => ⟨h1, rfl, hB0.trans (h2.mono hB0.size)⟩) ?_
  simp only [List.take_succ_cons, List.take_zero]
  repeat (refine wpDie_step (by rfl) (fun K hK => ?_); go_simp; first | (refine hK _ ?_; clear hK K) | (apply Exists.intro; refine ⟨fun _ => ?_, hK _ ?_⟩; (fail); clear hK K))
  (refine wpDie_step (by rfl) (fun K hK => ?_); go_simp; first | (refine hK _ ?_; clear hK K) | (apply Exists.intro; refine ⟨fun _ => ?_, hK _ ?_⟩; (first | (go_at_call 73; exact calm_call (fun W1 _ => k1.out W1))); clear hK K))
  repeat (refine wpDie_step (by rfl) (fun K hK => ?_); go_simp; first | (refine hK _ ?_; clear hK K) | (apply Exists.intro; refine ⟨fun _ => ?_, hK _ ?_⟩; (fail); clear hK K))
  (refine wpDie_step (by rfl) (fun K hK => ?_); go_simp; first | (refine hK _ ?_; clear hK K) | (apply Exists.intro; refine ⟨fun _ => ?_, hK _ ?_⟩; (first | (go_at_call 66; exact calm_call (fun W1 _ => k2.out W1))); clear hK K))
  repeat (refine wpDie_step (by rfl) (fun K hK => ?_); go_simp; first | (refine hK _ ?_; clear hK K) | (apply Exists.intro; refine ⟨fun _ => ?_, hK _ ?_⟩; (fail); clear hK K))
  refine wpDie_here (.agg #[.int .i64 0, .int .i64 0]) (by rfl) (fun w' hw' => ?_) ?_
  · obtain ⟨⟨dq, osq⟩, hw''⟩ := hw'
    subst hw''
    refine ⟨_, _, ?_, die_call (fun W1 _ => k3.out W1)⟩
    first | rfl | simp [go_sem]
  repeat (refine wpDie_step (by rfl) (fun K hK => ?_); go_simp; first | (refine hK _ ?_; clear hK K) | (apply Exists.intro; refine ⟨fun _ => ?_, hK _ ?_⟩; (fail); clear hK K))
  exact wpDie_nil trivial

end Go.Proofs.Ytdadpfgcjffclaa
