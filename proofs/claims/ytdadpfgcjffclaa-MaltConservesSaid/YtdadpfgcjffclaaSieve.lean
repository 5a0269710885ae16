/- What sieving returns, or that it stops. -/
import Derived.Test.YtdadpfgcjffclaaGrain
namespace Go.Proofs.Ytdadpfgcjffclaa
open Go.RowKit Go.Sort
attribute [local go_sem] Oper.calm Oper.calmAt Oper.calmUpon

set_option maxHeartbeats 1000000 in
set_option maxRecDepth 100000 in
theorem sieve_ok (d1 d2 w1 w2 p1 p2 t1 t2 g1 g2 r1 r2 s1 s2 x y m zz : Int) (w : World) (hd : SpOk d1 d2 1099511627776) (hw : SpOk w1 w2 1099511627776) (hp : SpOk p1 p2 1099511627776) (ht : SpOk t1 t2 1099511627776) (hg : SpOk g1 g2 1099511627776) (hr : SpOk r1 r2 1099511627776) (hs : SpOk s1 s2 1099511627776) (h : SpOk x y 1099511627776) (hm : Hid (min y d2 = m)) (hz : Hid (max (d1 - y) 0 = zz)) (q : x ≤ m) :
    Calls Try.prog 78 #[.agg #[.int .i64 d1, .int .i64 d2, .int .i64 w1, .int .i64 w2, .int .i64 p1, .int .i64 p2, .int .i64 t1, .int .i64 t2, .int .i64 g1, .int .i64 g2, .int .i64 r1, .int .i64 r2, .int .i64 s1, .int .i64 s2], .agg #[.int .i64 x, .int .i64 y]] w fun e w' => e = .returned (.agg #[.int .i64 zz, .int .i64 (d2 - x), .int .i64 w1, .int .i64 w2, .int .i64 p1, .int .i64 p2, .int .i64 t1, .int .i64 t2, .int .i64 g1, .int .i64 g2, .int .i64 (r1 + x), .int .i64 (r2 + m), .int .i64 s1, .int .i64 s2]) ∧ Below w.heap.size w w' := by
  obtain ⟨hd0, hd1, hd2⟩ := hd
  obtain ⟨hw0, hw1, hw2⟩ := hw
  obtain ⟨hp0, hp1, hp2⟩ := hp
  obtain ⟨ht0, ht1, ht2⟩ := ht
  obtain ⟨hg0, hg1, hg2⟩ := hg
  obtain ⟨hr0, hr1, hr2⟩ := hr
  obtain ⟨hs0, hs1, hs2⟩ := hs
  obtain ⟨hx0, hx1, hx2⟩ := h
  have hm' := hm.out
  have hz' := hz.out
  have k1 := Lib.hid fun W => atMost_ok x y d2 m W (by omega) hm
  have k2 := Lib.hid fun W => plus_ok r1 r2 x m W (by omega) (by omega) (by omega)
  have k3 := Lib.hid fun W => less_ok d1 d2 x y zz W (by omega) (by omega) (by omega) hz
  clear hm hz hm' hz'
  go_enter Try.func78, Try.ntmps78
  go_upto_region 1 with fail
  refine wp_world (fun W => Below w.heap.size w W ∧ Blk W w.heap.size 75 #[.int .i64 d1, .int .i64 d2, .int .i64 w1, .int .i64 w2, .int .i64 p1, .int .i64 p2, .int .i64 t1, .int .i64 t2, .int .i64 g1, .int .i64 g2, .int .i64 r1, .int .i64 r2, .int .i64 s1, .int .i64 s2] ∧ Blk W (w.heap.size + 1) 73 #[.int .i64 x, .int .i64 y] ∧ Blk W (w.heap.size + 1 + 1) 75 #[.int .i64 0, .int .i64 0, .int .i64 0, .int .i64 0, .int .i64 0, .int .i64 0, .int .i64 0, .int .i64 0, .int .i64 0, .int .i64 0, .int .i64 0, .int .i64 0, .int .i64 0, .int .i64 0])
    ⟨(((Below.refl _ _).alloc (Nat.le_refl _) _).alloc (by simp) _).alloc (by simp; omega) _, ((Blk.new _ _ _).alloc _).alloc _, (blk_at (by simp)).alloc _, blk_at (by simp)⟩ ?_
  rintro W0 ⟨hB0, b0, b1, b2⟩
  obtain ⟨c0, c1, c2, c3, c4, c5, c6, c7, c8, c9, c10, c11, c12, c13⟩ := b0.facts14
  obtain ⟨e0, e1, _, _⟩ := b1.facts2
  have c1' := fun d os => cell_regrown c1 d os
  have c10' := fun d os => cell_regrown c10 d os
  have c11' := fun d os => cell_regrown c11 d os
  have e0' := fun d os => cell_regrown e0 d os
  have e1' := fun d os => cell_regrown e1 d os
  refine wp_region_below_tail 10 (by kernel_rfl) (by kernel_rfl) ?_
  simp only [List.take_succ_cons, List.take_zero, List.drop_succ_cons, List.drop_zero]
  repeat (quiet_step (fail))
  quiet_step (first | (go_at_call 75; exact quiet_call (fun W1 _ => k1.out W1)))
  repeat (quiet_step (fail))
  quiet_step (first | (go_at_call 71; exact quiet_call (fun W1 _ => k2.out W1)))
  repeat (quiet_step (fail))
  refine wpQuiet_nil ?_
  intro _ hw'
  obtain ⟨⟨dq, osq⟩, hw''⟩ := hw'
  subst hw''
  have hb := below_regrown W0 dq osq
  replace b0 := b0.below hb b0.lt
  replace b1 := b1.below hb b1.lt
  replace b2 := b2.below hb b2.lt
  have hB := hB0.trans (hb.mono hB0.size)
  clear hb hB0 e0 e1 e0' e1' c0 c1 c2 c3 c4 c5 c6 c7 c8 c9 c10 c11 c12 c13 c1' c10' c11' k1 k2
  generalize grow (redrawn W0 dq) osq = W1 at *
  obtain ⟨c0, c1, c2, c3, c4, c5, c6, c7, c8, c9, c10, c11, c12, c13⟩ := b0.facts14
  obtain ⟨f0, f1, f2, f3, f4, f5, f6, f7, f8, f9, f10, f11, f12, f13⟩ := b0.frozen14
  go_upto_region 2 with fail
  refine wp_world (fun W => Below w.heap.size w W ∧ Blk W w.heap.size 75 #[.int .i64 d1, .int .i64 d2, .int .i64 w1, .int .i64 w2, .int .i64 p1, .int .i64 p2, .int .i64 t1, .int .i64 t2, .int .i64 g1, .int .i64 g2, .int .i64 (r1 + x), .int .i64 (r2 + m), .int .i64 s1, .int .i64 s2] ∧ Blk W (w.heap.size + 1) 73 #[.int .i64 x, .int .i64 y] ∧ Blk W (w.heap.size + 1 + 1) 75 #[.int .i64 0, .int .i64 0, .int .i64 0, .int .i64 0, .int .i64 0, .int .i64 0, .int .i64 0, .int .i64 0, .int .i64 0, .int .i64 0, .int .i64 0, .int .i64 0, .int .i64 0, .int .i64 0])
    ⟨belowp hB (by omega), b0.pair5, b1.farp (by omega), b2.farp (by omega)⟩ ?_
  clear hB b0 b1 b2 c0 c1 c2 c3 c4 c5 c6 c7 c8 c9 c10 c11 c12 c13 f0 f1 f2 f3 f4 f5 f6 f7 f8 f9 f10 f11 f12 f13
  rintro W2 ⟨hB, b0, b1, b2⟩
  obtain ⟨c0, c1, c2, c3, c4, c5, c6, c7, c8, c9, c10, c11, c12, c13⟩ := b0.facts14
  obtain ⟨e0, e1, _, _⟩ := b1.facts2
  go_wp2_with fail
  refine (k3.out _).mono ?_
  rintro e W3 ⟨rfl, hb⟩
  replace b0 := b0.below hb b0.lt
  replace b2 := b2.below hb b2.lt
  replace hB := hB.trans (hb.mono hB.size)
  clear hb
  clear c0 c1 c2 c3 c4 c5 c6 c7 c8 c9 c10 c11 c12 c13 e0 e1 k3 b1
  obtain ⟨c0, c1, c2, c3, c4, c5, c6, c7, c8, c9, c10, c11, c12, c13⟩ := b0.facts14
  obtain ⟨f0, f1, f2, f3, f4, f5, f6, f7, f8, f9, f10, f11, f12, f13⟩ := b0.frozen14
  go_upto_region 3 with fail
  refine wp_world (fun W => Below w.heap.size w W ∧ Blk W w.heap.size 75 #[.int .i64 zz, .int .i64 (d2 - x), .int .i64 w1, .int .i64 w2, .int .i64 p1, .int .i64 p2, .int .i64 t1, .int .i64 t2, .int .i64 g1, .int .i64 g2, .int .i64 (r1 + x), .int .i64 (r2 + m), .int .i64 s1, .int .i64 s2] ∧ Blk W (w.heap.size + 1 + 1) 75 #[.int .i64 0, .int .i64 0, .int .i64 0, .int .i64 0, .int .i64 0, .int .i64 0, .int .i64 0, .int .i64 0, .int .i64 0, .int .i64 0, .int .i64 0, .int .i64 0, .int .i64 0, .int .i64 0])
    ⟨belowp hB (by omega), b0.pair0, b2.farp (by omega)⟩ ?_
  clear hB b0 b2 c0 c1 c2 c3 c4 c5 c6 c7 c8 c9 c10 c11 c12 c13 f0 f1 f2 f3 f4 f5 f6 f7 f8 f9 f10 f11 f12 f13
  rintro W4 ⟨hB, b0, b2⟩
  obtain ⟨c0, c1, c2, c3, c4, c5, c6, c7, c8, c9, c10, c11, c12, c13⟩ := b0.facts14
  obtain ⟨f0, f1, f2, f3, f4, f5, f6, f7, f8, f9, f10, f11, f12, f13⟩ := b2.frozen14
  obtain ⟨z0, z1, z2, z3, z4, z5, z6, z7, z8, z9, z10, z11, z12, z13⟩ := b2.facts14
  have n2 := b2.lt
  go_upto_region 3 with fail
  go_wp2
  refine ret_world (fun W => Below w.heap.size w W ∧ Blk W (w.heap.size + 1 + 1) 75 #[.int .i64 zz, .int .i64 (d2 - x), .int .i64 w1, .int .i64 w2, .int .i64 p1, .int .i64 p2, .int .i64 t1, .int .i64 t2, .int .i64 g1, .int .i64 g2, .int .i64 (r1 + x), .int .i64 (r2 + m), .int .i64 s1, .int .i64 s2]) ⟨below14 hB (by omega), b2.sets14⟩ ?_
  clear hB b0 b2 c0 c1 c2 c3 c4 c5 c6 c7 c8 c9 c10 c11 c12 c13 f0 f1 f2 f3 f4 f5 f6 f7 f8 f9 f10 f11 f12 f13 z0 z1 z2 z3 z4 z5 z6 z7 z8 z9 z10 z11 z12 z13
  rintro W ⟨hB, b2⟩
  obtain ⟨z0, z1, z2, z3, z4, z5, z6, z7, z8, z9, z10, z11, z12, z13⟩ := b2.facts14
  exact bodyPost_ret (v := .agg #[.int .i64 zz, .int .i64 (d2 - x), .int .i64 w1, .int .i64 w2, .int .i64 p1, .int .i64 p2, .int .i64 t1, .int .i64 t2, .int .i64 g1, .int .i64 g2, .int .i64 (r1 + x), .int .i64 (r2 + m), .int .i64 s1, .int .i64 s2]) (by simp [results, Try.results78, go_sem, z0, z1, z2, z3, z4, z5, z6, z7, z8, z9, z10, z11, z12, z13]) rfl ⟨rfl, hB⟩

set_option maxHeartbeats 1000000 in
set_option maxRecDepth 100000 in
theorem sieve_bad (d1 d2 w1 w2 p1 p2 t1 t2 g1 g2 r1 r2 s1 s2 x y : Int) (w : World) (hd : SpOk d1 d2 1099511627776) (hw : SpOk w1 w2 1099511627776) (hp : SpOk p1 p2 1099511627776) (ht : SpOk t1 t2 1099511627776) (hg : SpOk g1 g2 1099511627776) (hr : SpOk r1 r2 1099511627776) (hs : SpOk s1 s2 1099511627776) (h : SpOk x y 1099511627776) (q : min y d2 < x) :
    Calls Try.prog 78 #[.agg #[.int .i64 d1, .int .i64 d2, .int .i64 w1, .int .i64 w2, .int .i64 p1, .int .i64 p2, .int .i64 t1, .int .i64 t2, .int .i64 g1, .int .i64 g2, .int .i64 r1, .int .i64 r2, .int .i64 s1, .int .i64 s2], .agg #[.int .i64 x, .int .i64 y]] w fun e w' => e = .panicked stop ∧ Below w.heap.size w w' := by
  obtain ⟨hd0, hd1, hd2⟩ := hd
  obtain ⟨hw0, hw1, hw2⟩ := hw
  obtain ⟨hp0, hp1, hp2⟩ := hp
  obtain ⟨ht0, ht1, ht2⟩ := ht
  obtain ⟨hg0, hg1, hg2⟩ := hg
  obtain ⟨hr0, hr1, hr2⟩ := hr
  obtain ⟨hs0, hs1, hs2⟩ := hs
  obtain ⟨hx0, hx1, hx2⟩ := h
  have k1 := Lib.hid fun W => atMost_bad x y d2 W q
  have k2 := Lib.hid fun W => plus_ok r1 r2 0 0 W (by omega) (by omega) (by omega)
  go_enter Try.func78, Try.ntmps78
  go_upto_region 1 with fail
  refine wp_world (fun W => Below w.heap.size w W ∧ Blk W w.heap.size 75 #[.int .i64 d1, .int .i64 d2, .int .i64 w1, .int .i64 w2, .int .i64 p1, .int .i64 p2, .int .i64 t1, .int .i64 t2, .int .i64 g1, .int .i64 g2, .int .i64 r1, .int .i64 r2, .int .i64 s1, .int .i64 s2] ∧ Blk W (w.heap.size + 1) 73 #[.int .i64 x, .int .i64 y] ∧ Blk W (w.heap.size + 1 + 1) 75 #[.int .i64 0, .int .i64 0, .int .i64 0, .int .i64 0, .int .i64 0, .int .i64 0, .int .i64 0, .int .i64 0, .int .i64 0, .int .i64 0, .int .i64 0, .int .i64 0, .int .i64 0, .int .i64 0])
    ⟨(((Below.refl _ _).alloc (Nat.le_refl _) _).alloc (by simp) _).alloc (by simp; omega) _, ((Blk.new _ _ _).alloc _).alloc _, (blk_at (by simp)).alloc _, blk_at (by simp)⟩ ?_
  rintro W0 ⟨hB0, b0, b1, b2⟩
  obtain ⟨c0, c1, c2, c3, c4, c5, c6, c7, c8, c9, c10, c11, c12, c13⟩ := b0.facts14
  obtain ⟨e0, e1, _, _⟩ := b1.facts2
  have c1' := fun d os => cell_regrown c1 d os
  have c10' := fun d os => cell_regrown c10 d os
  have c11' := fun d os => cell_regrown c11 d os
  have e0' := fun d os => cell_regrown e0 d os
  have e1' := fun d os => cell_regrown e1 d os
  refine wp_region_die_below 10 7 stop (by kernel_rfl) (by kernel_rfl) (by omega) (fun a' w' h1 h2 => ⟨h1, rfl, hB0.trans (h2.mono hB0.size)⟩) ?_
  simp only [List.take_succ_cons, List.take_zero]
  repeat (refine wpDie_step (by rfl) (fun K hK => ?_); go_simp; first | (refine hK _ ?_; clear hK K) | (apply Exists.intro; refine ⟨fun _ => ?_, hK _ ?_⟩; (fail); clear hK K))
  refine wpDie_here (.agg #[.int .i64 0, .int .i64 0]) (by rfl) (fun w' hw' => ?_) ?_
  · obtain ⟨⟨dq, osq⟩, hw''⟩ := hw'
    subst hw''
    refine ⟨_, _, ?_, die_call (fun W1 _ => k1.out W1)⟩
    first | rfl | simp [go_sem]
  repeat (refine wpDie_step (by rfl) (fun K hK => ?_); go_simp; first | (refine hK _ ?_; clear hK K) | (apply Exists.intro; refine ⟨fun _ => ?_, hK _ ?_⟩; (fail); clear hK K))
  (refine wpDie_step (by rfl) (fun K hK => ?_); go_simp; first | (refine hK _ ?_; clear hK K) | (apply Exists.intro; refine ⟨fun _ => ?_, hK _ ?_⟩; (first | (go_at_call 71; exact calm_call (fun W1 _ => k2.out W1))); clear hK K))
  repeat (refine wpDie_step (by rfl) (fun K hK => ?_); go_simp; first | (refine hK _ ?_; clear hK K) | (apply Exists.intro; refine ⟨fun _ => ?_, hK _ ?_⟩; (fail); clear hK K))
  exact wpDie_nil trivial

end Go.Proofs.Ytdadpfgcjffclaa
