/- What peat returns, or that it stops. -/
import Derived.Test.YtdadpfgcjffclaaGrain
namespace Go.Proofs.Ytdadpfgcjffclaa
open Go.RowKit Go.Sort
attribute [local go_sem] Oper.calm Oper.calmAt Oper.calmUpon

set_option maxHeartbeats 1000000 in
set_option maxRecDepth 100000 in
theorem peat_ok (d1 d2 w1 w2 p1 p2 t1 t2 g1 g2 r1 r2 s1 s2 x y u v : Int) (w : World) (hd : SpOk d1 d2 1099511627776) (hw : SpOk w1 w2 1099511627776) (hp : SpOk p1 p2 1099511627776) (ht : SpOk t1 t2 1099511627776) (hg : SpOk g1 g2 1099511627776) (hr : SpOk r1 r2 1099511627776) (hs : SpOk s1 s2 1099511627776) (h : SpOk x y 1048576) (hu : Hid (upQ (x * d1) 1000 = u)) (hv : Hid (y * d2 / 1000 = v)) (q : p1 + u ≤ p2 + v) :
    Calls Try.prog 77 #[.agg #[.int .i64 d1, .int .i64 d2, .int .i64 w1, .int .i64 w2, .int .i64 p1, .int .i64 p2, .int .i64 t1, .int .i64 t2, .int .i64 g1, .int .i64 g2, .int .i64 r1, .int .i64 r2, .int .i64 s1, .int .i64 s2], .agg #[.int .i64 x, .int .i64 y]] w fun e w' => e = .returned (.agg #[.int .i64 d1, .int .i64 d2, .int .i64 w1, .int .i64 w2, .int .i64 (p1 + u), .int .i64 (p2 + v), .int .i64 t1, .int .i64 t2, .int .i64 g1, .int .i64 g2, .int .i64 r1, .int .i64 r2, .int .i64 s1, .int .i64 s2]) ∧ Below w.heap.size w w' := by
  obtain ⟨hd0, hd1, hd2⟩ := hd
  obtain ⟨hw0, hw1, hw2⟩ := hw
  obtain ⟨hp0, hp1, hp2⟩ := hp
  obtain ⟨ht0, ht1, ht2⟩ := ht
  obtain ⟨hg0, hg1, hg2⟩ := hg
  obtain ⟨hr0, hr1, hr2⟩ := hr
  obtain ⟨hs0, hs1, hs2⟩ := hs
  obtain ⟨hx0, hx1, hx2⟩ := h
  have e1 := prod_bd hx0 (show x ≤ 1048576 by omega) hd0 (show d1 ≤ 1099511627776 by omega)
  have e2 := prod_bd (show 0 ≤ y by omega) hx2 (show 0 ≤ d2 by omega) hd2
  have ub := upQ_bd (b := 1000) (by omega) e1.1
  rw [hu.out] at ub
  have k1 := Lib.hid fun W => share_any d1 d2 x y 1000 u v W e1.1 e2.1 (by omega) (by omega) (by omega) hu hv
  have vb : 0 ≤ v ∧ v ≤ y * d2 := by rw [← hv.out]; exact ⟨Int.ediv_nonneg e2.1 (by omega), Int.ediv_le_self _ e2.1⟩
  have k2 := Lib.hid fun W => know_ok (p1 + u) (p2 + v) W q
  replace e2 := e2.2
  replace e1 := e1.2
  clear hu hv
  go_enter Try.func77, Try.ntmps77
  go_upto_region 1 with fail
  refine wp_world (fun W => Below w.heap.size w W ∧ Blk W w.heap.size 75 #[.int .i64 d1, .int .i64 d2, .int .i64 w1, .int .i64 w2, .int .i64 p1, .int .i64 p2, .int .i64 t1, .int .i64 t2, .int .i64 g1, .int .i64 g2, .int .i64 r1, .int .i64 r2, .int .i64 s1, .int .i64 s2] ∧ Blk W (w.heap.size + 1) 73 #[.int .i64 x, .int .i64 y] ∧ Blk W (w.heap.size + 1 + 1) 75 #[.int .i64 0, .int .i64 0, .int .i64 0, .int .i64 0, .int .i64 0, .int .i64 0, .int .i64 0, .int .i64 0, .int .i64 0, .int .i64 0, .int .i64 0, .int .i64 0, .int .i64 0, .int .i64 0])
    ⟨(((Below.refl _ _).alloc (Nat.le_refl _) _).alloc (by simp) _).alloc (by simp; omega) _, ((Blk.new _ _ _).alloc _).alloc _, (blk_at (by simp)).alloc _, blk_at (by simp)⟩ ?_
  rintro W0 ⟨hB0, b0, b1, b2⟩
  obtain ⟨c0, c1, c2, c3, c4, c5, c6, c7, c8, c9, c10, c11, c12, c13⟩ := b0.facts14
  obtain ⟨e0, e1, _, _⟩ := b1.facts2
  go_wp2_with fail
  refine (k1.out _).mono ?_
  rintro e W1 ⟨rfl, hb⟩
  replace b0 := b0.below hb b0.lt
  replace b1 := b1.below hb b1.lt
  replace b2 := b2.below hb b2.lt
  replace hB0 := hB0.trans (hb.mono hB0.size)
  clear hb
  clear c0 c1 c2 c3 c4 c5 c6 c7 c8 c9 c10 c11 c12 c13 e0 e1 k1 b1
  obtain ⟨c0, c1, c2, c3, c4, c5, c6, c7, c8, c9, c10, c11, c12, c13⟩ := b0.facts14
  go_wp2_with fail
  refine (k2.out _).mono ?_
  rintro e W2 ⟨rfl, hb⟩
  replace b0 := b0.below hb b0.lt
  replace b2 := b2.below hb b2.lt
  replace hB0 := hB0.trans (hb.mono hB0.size)
  clear hb
  clear c0 c1 c2 c3 c4 c5 c6 c7 c8 c9 c10 c11 c12 c13
  obtain ⟨c0, c1, c2, c3, c4, c5, c6, c7, c8, c9, c10, c11, c12, c13⟩ := b0.facts14
  obtain ⟨f0, f1, f2, f3, f4, f5, f6, f7, f8, f9, f10, f11, f12, f13⟩ := b0.frozen14
  go_upto_region 3 with fail
  refine wp_world (fun W => Below w.heap.size w W ∧ Blk W w.heap.size 75 #[.int .i64 d1, .int .i64 d2, .int .i64 w1, .int .i64 w2, .int .i64 (p1 + u), .int .i64 (p2 + v), .int .i64 t1, .int .i64 t2, .int .i64 g1, .int .i64 g2, .int .i64 r1, .int .i64 r2, .int .i64 s1, .int .i64 s2] ∧ Blk W (w.heap.size + 1 + 1) 75 #[.int .i64 0, .int .i64 0, .int .i64 0, .int .i64 0, .int .i64 0, .int .i64 0, .int .i64 0, .int .i64 0, .int .i64 0, .int .i64 0, .int .i64 0, .int .i64 0, .int .i64 0, .int .i64 0])
    ⟨belowp hB0 (by omega), b0.pair2, b2.farp (by omega)⟩ ?_
  clear hB0 b0 b2 c0 c1 c2 c3 c4 c5 c6 c7 c8 c9 c10 c11 c12 c13 f0 f1 f2 f3 f4 f5 f6 f7 f8 f9 f10 f11 f12 f13
  rintro W3 ⟨hB, b0, b2⟩
  obtain ⟨c0, c1, c2, c3, c4, c5, c6, c7, c8, c9, c10, c11, c12, c13⟩ := b0.facts14
  obtain ⟨f0, f1, f2, f3, f4, f5, f6, f7, f8, f9, f10, f11, f12, f13⟩ := b2.frozen14
  obtain ⟨z0, z1, z2, z3, z4, z5, z6, z7, z8, z9, z10, z11, z12, z13⟩ := b2.facts14
  have n2 := b2.lt
  go_upto_region 3 with fail
  go_wp2
  refine ret_world (fun W => Below w.heap.size w W ∧ Blk W (w.heap.size + 1 + 1) 75 #[.int .i64 d1, .int .i64 d2, .int .i64 w1, .int .i64 w2, .int .i64 (p1 + u), .int .i64 (p2 + v), .int .i64 t1, .int .i64 t2, .int .i64 g1, .int .i64 g2, .int .i64 r1, .int .i64 r2, .int .i64 s1, .int .i64 s2]) ⟨below14 hB (by omega), b2.sets14⟩ ?_
  clear hB b0 b2 c0 c1 c2 c3 c4 c5 c6 c7 c8 c9 c10 c11 c12 c13 f0 f1 f2 f3 f4 f5 f6 f7 f8 f9 f10 f11 f12 f13 z0 z1 z2 z3 z4 z5 z6 z7 z8 z9 z10 z11 z12 z13
  rintro W ⟨hB, b2⟩
  obtain ⟨z0, z1, z2, z3, z4, z5, z6, z7, z8, z9, z10, z11, z12, z13⟩ := b2.facts14
  exact bodyPost_ret (v := .agg #[.int .i64 d1, .int .i64 d2, .int .i64 w1, .int .i64 w2, .int .i64 (p1 + u), .int .i64 (p2 + v), .int .i64 t1, .int .i64 t2, .int .i64 g1, .int .i64 g2, .int .i64 r1, .int .i64 r2, .int .i64 s1, .int .i64 s2]) (by simp [results, Try.results77, go_sem, z0, z1, z2, z3, z4, z5, z6, z7, z8, z9, z10, z11, z12, z13]) rfl ⟨rfl, hB⟩

set_option maxHeartbeats 1000000 in
set_option maxRecDepth 100000 in
theorem peat_bad (d1 d2 w1 w2 p1 p2 t1 t2 g1 g2 r1 r2 s1 s2 x y u v : Int) (w : World) (hd : SpOk d1 d2 1099511627776) (hw : SpOk w1 w2 1099511627776) (hp : SpOk p1 p2 1099511627776) (ht : SpOk t1 t2 1099511627776) (hg : SpOk g1 g2 1099511627776) (hr : SpOk r1 r2 1099511627776) (hs : SpOk s1 s2 1099511627776) (h : SpOk x y 1048576) (hu : Hid (upQ (x * d1) 1000 = u)) (hv : Hid (y * d2 / 1000 = v)) (q : p2 + v < p1 + u) :
    Calls Try.prog 77 #[.agg #[.int .i64 d1, .int .i64 d2, .int .i64 w1, .int .i64 w2, .int .i64 p1, .int .i64 p2, .int .i64 t1, .int .i64 t2, .int .i64 g1, .int .i64 g2, .int .i64 r1, .int .i64 r2, .int .i64 s1, .int .i64 s2], .agg #[.int .i64 x, .int .i64 y]] w fun e w' => e = .panicked stop ∧ Below w.heap.size w w' := by
  obtain ⟨hd0, hd1, hd2⟩ := hd
  obtain ⟨hw0, hw1, hw2⟩ := hw
  obtain ⟨hp0, hp1, hp2⟩ := hp
  obtain ⟨ht0, ht1, ht2⟩ := ht
  obtain ⟨hg0, hg1, hg2⟩ := hg
  obtain ⟨hr0, hr1, hr2⟩ := hr
  obtain ⟨hs0, hs1, hs2⟩ := hs
  obtain ⟨hx0, hx1, hx2⟩ := h
  have e1 := prod_bd hx0 (show x ≤ 1048576 by omega) hd0 (show d1 ≤ 1099511627776 by omega)
  have e2 := prod_bd (show 0 ≤ y by omega) hx2 (show 0 ≤ d2 by omega) hd2
  have ub := upQ_bd (b := 1000) (by omega) e1.1
  rw [hu.out] at ub
  have k1 := Lib.hid fun W => share_any d1 d2 x y 1000 u v W e1.1 e2.1 (by omega) (by omega) (by omega) hu hv
  have vb : 0 ≤ v ∧ v ≤ y * d2 := by rw [← hv.out]; exact ⟨Int.ediv_nonneg e2.1 (by omega), Int.ediv_le_self _ e2.1⟩
  have k2 := Lib.hid fun W => know_bad (p1 + u) (p2 + v) W q
  replace e2 := e2.2
  replace e1 := e1.2
  clear hu hv
  go_enter Try.func77, Try.ntmps77
  go_upto_region 1 with fail
  refine wp_world (fun W => Below w.heap.size w W ∧ Blk W w.heap.size 75 #[.int .i64 d1, .int .i64 d2, .int .i64 w1, .int .i64 w2, .int .i64 p1, .int .i64 p2, .int .i64 t1, .int .i64 t2, .int .i64 g1, .int .i64 g2, .int .i64 r1, .int .i64 r2, .int .i64 s1, .int .i64 s2] ∧ Blk W (w.heap.size + 1) 73 #[.int .i64 x, .int .i64 y] ∧ Blk W (w.heap.size + 1 + 1) 75 #[.int .i64 0, .int .i64 0, .int .i64 0, .int .i64 0, .int .i64 0, .int .i64 0, .int .i64 0, .int .i64 0, .int .i64 0, .int .i64 0, .int .i64 0, .int .i64 0, .int .i64 0, .int .i64 0])
    ⟨(((Below.refl _ _).alloc (Nat.le_refl _) _).alloc (by simp) _).alloc (by simp; omega) _, ((Blk.new _ _ _).alloc _).alloc _, (blk_at (by simp)).alloc _, blk_at (by simp)⟩ ?_
  rintro W0 ⟨hB0, b0, b1, b2⟩
  obtain ⟨c0, c1, c2, c3, c4, c5, c6, c7, c8, c9, c10, c11, c12, c13⟩ := b0.facts14
  obtain ⟨e0, e1, _, _⟩ := b1.facts2
  go_wp2_with fail
  refine (k1.out _).mono ?_
  rintro e W1 ⟨rfl, hb⟩
  replace b0 := b0.below hb b0.lt
  replace b1 := b1.below hb b1.lt
  replace b2 := b2.below hb b2.lt
  replace hB0 := hB0.trans (hb.mono hB0.size)
  clear hb
  clear c0 c1 c2 c3 c4 c5 c6 c7 c8 c9 c10 c11 c12 c13 e0 e1 k1 b1
  obtain ⟨c0, c1, c2, c3, c4, c5, c6, c7, c8, c9, c10, c11, c12, c13⟩ := b0.facts14
  go_wp2_with fail
  refine (k2.out _).mono ?_
  rintro e W2 ⟨rfl, hb⟩
  go_wp2_with fail
  exact ⟨rfl, rfl, hB0.trans (hb.mono hB0.size)⟩

end Go.Proofs.Ytdadpfgcjffclaa
