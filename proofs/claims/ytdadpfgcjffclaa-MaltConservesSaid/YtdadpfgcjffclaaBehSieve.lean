/- What the document's own package says of a step. -/
import Derived.Test.YtdadpfgcjffclaaRefDust
import Derived.Test.YtdadpfgcjffclaaPairs
import Derived.Test.YtdadpfgcjffclaaGrain
namespace Go.Proofs.Ytdadpfgcjffclaa
open Go.RowKit Go.Sort
attribute [local go_sem] Oper.calm Oper.calmAt Oper.calmUpon

set_option maxHeartbeats 2000000 in
set_option maxRecDepth 100000 in
theorem beh_sieve (d1 d2 w1 w2 p1 p2 x y mm zz : Int) (w : World) (hd : SpOk d1 d2 1099511627776) (hw : SpOk w1 w2 1099511627776) (hp : SpOk p1 p2 1099511627776) (h : SpOk x y 1099511627776) (hm : Hid (min y d2 = mm)) (hz : Hid (max (d1 - y) 0 = zz)) :
    Calls Try.prog 38 #[.agg #[.int .i64 d1, .int .i64 d2, .int .i64 w1, .int .i64 w2, .int .i64 p1, .int .i64 p2], .agg #[.int .i64 4, .int .i64 x, .int .i64 y]] w fun e w' => e = .returned (.tuple #[.agg #[.int .i64 zz, .int .i64 (d2 - x), .int .i64 w1, .int .i64 w2, .int .i64 p1, .int .i64 p2], .agg #[.int .i64 0, .int .i64 0, .int .i64 0, .int .i64 0, .int .i64 x, .int .i64 mm, .int .i64 0, .int .i64 0]]) ∧ Below w.heap.size w w' := by
  obtain ⟨hd0, hd1, hd2⟩ := hd
  obtain ⟨hw0, hw1, hw2⟩ := hw
  obtain ⟨hp0, hp1, hp2⟩ := hp
  obtain ⟨hx0, hx1, hx2⟩ := h
  have hmm : (if d2 < y then d2 else y) = mm := by rw [← hm.out]; split <;> omega
  have hzz : (if y < d1 then d1 - y else 0) = zz := by rw [← hz.out]; split <;> omega
  clear hm hz
  go_enter Try.func38, Try.ntmps38
  go_upto_region 16 with fail
  refine wp_world (fun W => Below w.heap.size w W ∧ Blk W (w.heap.size) 25 #[.int .i64 d1, .int .i64 d2, .int .i64 w1, .int .i64 w2, .int .i64 p1, .int .i64 p2] ∧ Blk W (w.heap.size + 1) 54 #[.int .i64 4, .int .i64 x, .int .i64 y] ∧ Blk W (w.heap.size + 1 + 1) 25 #[.int .i64 0, .int .i64 0, .int .i64 0, .int .i64 0, .int .i64 0, .int .i64 0] ∧ Blk W (w.heap.size + 1 + 1 + 1) 29 #[.int .i64 0, .int .i64 0, .int .i64 0, .int .i64 0, .int .i64 0, .int .i64 0, .int .i64 0, .int .i64 0] ∧ Blk W (w.heap.size + 1 + 1 + 1 + 1) 25 #[.int .i64 d1, .int .i64 d2, .int .i64 w1, .int .i64 w2, .int .i64 p1, .int .i64 p2] ∧ Blk W (w.heap.size + 1 + 1 + 1 + 1 + 1) 29 #[.int .i64 0, .int .i64 0, .int .i64 0, .int .i64 0, .int .i64 0, .int .i64 0, .int .i64 0, .int .i64 0])
    ⟨((((((Below.refl _ _).alloc (Nat.le_refl _) _).alloc (by simp; try omega) _).alloc (by simp; try omega) _).alloc (by simp; try omega) _).alloc (by simp; try omega) _).alloc (by simp; try omega) _, (((((Blk.new _ _ _).alloc _).alloc _).alloc _).alloc _).alloc _, ((((blk_at (by simp)).alloc _).alloc _).alloc _).alloc _, (((blk_at (by simp)).alloc _).alloc _).alloc _, ((blk_at (by simp)).alloc _).alloc _, (blk_at (by simp)).alloc _, blk_at (by simp)⟩ ?_
  rintro W0 ⟨hB, b0, b1, b2, b3, b4, b5⟩
  obtain ⟨x0, x1, x2, x3, x4, x5⟩ := b0.facts6
  obtain ⟨e0, e1, e2, _, _, _⟩ := b1.facts3
  obtain ⟨c0, c1, c2, c3, c4, c5⟩ := b4.facts6
  obtain ⟨f0, f1, f2, f3, f4, f5⟩ := b4.frozen6
  obtain ⟨y0, y1, y2, y3, y4, y5, y6, y7⟩ := b5.facts8
  obtain ⟨g0, g1, g2, g3, g4, g5, g6, g7⟩ := b5.frozen8
  have n5 := b5.lt
  go_upto_region 17 with fail
  refine wp_world (fun W => Below w.heap.size w W ∧ Blk W (w.heap.size) 25 #[.int .i64 d1, .int .i64 d2, .int .i64 w1, .int .i64 w2, .int .i64 p1, .int .i64 p2] ∧ Blk W (w.heap.size + 1) 54 #[.int .i64 4, .int .i64 x, .int .i64 y] ∧ Blk W (w.heap.size + 1 + 1) 25 #[.int .i64 0, .int .i64 0, .int .i64 0, .int .i64 0, .int .i64 0, .int .i64 0] ∧ Blk W (w.heap.size + 1 + 1 + 1) 29 #[.int .i64 0, .int .i64 0, .int .i64 0, .int .i64 0, .int .i64 0, .int .i64 0, .int .i64 0, .int .i64 0] ∧ Blk W (w.heap.size + 1 + 1 + 1 + 1) 25 #[.int .i64 zz, .int .i64 (d2 - x), .int .i64 w1, .int .i64 w2, .int .i64 p1, .int .i64 p2] ∧ Blk W (w.heap.size + 1 + 1 + 1 + 1 + 1) 29 #[.int .i64 0, .int .i64 0, .int .i64 0, .int .i64 0, .int .i64 0, .int .i64 0, .int .i64 0, .int .i64 0])
    ⟨belowp hB (by omega), b0.farp (by omega), b1.farp (by omega), b2.farp (by omega), b3.farp (by omega), b4.pair6_0, b5.farp (by omega)⟩ ?_
  clear hB b0 b1 b2 b3 b4 b5 x0 x1 x2 x3 x4 x5 e0 e1 e2 c0 c1 c2 c3 c4 c5 f0 f1 f2 f3 f4 f5 y0 y1 y2 y3 y4 y5 y6 y7 g0 g1 g2 g3 g4 g5 g6 g7 n5
  rintro W0 ⟨hB, b0, b1, b2, b3, b4, b5⟩
  obtain ⟨x0, x1, x2, x3, x4, x5⟩ := b0.facts6
  obtain ⟨e0, e1, e2, _, _, _⟩ := b1.facts3
  obtain ⟨c0, c1, c2, c3, c4, c5⟩ := b4.facts6
  obtain ⟨f0, f1, f2, f3, f4, f5⟩ := b4.frozen6
  obtain ⟨y0, y1, y2, y3, y4, y5, y6, y7⟩ := b5.facts8
  obtain ⟨g0, g1, g2, g3, g4, g5, g6, g7⟩ := b5.frozen8
  have n5 := b5.lt
  go_upto_region 21 with fail
  refine wp_world (fun W => Below w.heap.size w W ∧ Blk W (w.heap.size) 25 #[.int .i64 d1, .int .i64 d2, .int .i64 w1, .int .i64 w2, .int .i64 p1, .int .i64 p2] ∧ Blk W (w.heap.size + 1) 54 #[.int .i64 4, .int .i64 x, .int .i64 y] ∧ Blk W (w.heap.size + 1 + 1) 25 #[.int .i64 0, .int .i64 0, .int .i64 0, .int .i64 0, .int .i64 0, .int .i64 0] ∧ Blk W (w.heap.size + 1 + 1 + 1) 29 #[.int .i64 0, .int .i64 0, .int .i64 0, .int .i64 0, .int .i64 0, .int .i64 0, .int .i64 0, .int .i64 0] ∧ Blk W (w.heap.size + 1 + 1 + 1 + 1) 25 #[.int .i64 zz, .int .i64 (d2 - x), .int .i64 w1, .int .i64 w2, .int .i64 p1, .int .i64 p2] ∧ Blk W (w.heap.size + 1 + 1 + 1 + 1 + 1) 29 #[.int .i64 0, .int .i64 0, .int .i64 0, .int .i64 0, .int .i64 x, .int .i64 mm, .int .i64 0, .int .i64 0])
    ⟨belowp hB (by omega), b0.farp (by omega), b1.farp (by omega), b2.farp (by omega), b3.farp (by omega), b4.farp (by omega), b5.pair8_2⟩ ?_
  clear hB b0 b1 b2 b3 b4 b5 x0 x1 x2 x3 x4 x5 e0 e1 e2 c0 c1 c2 c3 c4 c5 f0 f1 f2 f3 f4 f5 y0 y1 y2 y3 y4 y5 y6 y7 g0 g1 g2 g3 g4 g5 g6 g7 n5
  rintro W0 ⟨hB, b0, b1, b2, b3, b4, b5⟩
  obtain ⟨c0, c1, c2, c3, c4, c5⟩ := b4.facts6
  obtain ⟨y0, y1, y2, y3, y4, y5, y6, y7⟩ := b5.facts8
  obtain ⟨x0, x1, x2, x3, x4, x5⟩ := b2.facts6
  obtain ⟨f0, f1, f2, f3, f4, f5⟩ := b2.frozen6
  obtain ⟨z0, z1, z2, z3, z4, z5, z6, z7⟩ := b3.facts8
  obtain ⟨g0, g1, g2, g3, g4, g5, g6, g7⟩ := b3.frozen8
  have n5 := b5.lt
  go_upto_region 21 with fail
  go_region
  all_goals
    go_wp2
    refine ret_world (fun W => Below w.heap.size w W ∧ Blk W (w.heap.size + 1 + 1) 25 #[.int .i64 zz, .int .i64 (d2 - x), .int .i64 w1, .int .i64 w2, .int .i64 p1, .int .i64 p2] ∧ Blk W (w.heap.size + 1 + 1 + 1) 29 #[.int .i64 0, .int .i64 0, .int .i64 0, .int .i64 0, .int .i64 x, .int .i64 mm, .int .i64 0, .int .i64 0])
      ⟨(below8 (below6 hB (by omega)) (by omega)).drew, (Blk.farsets8 (Blk.sets6 b2) (by omega)).drew, (Blk.sets8 (Blk.farsets6 b3 (by omega))).drew⟩ ?_
    clear hB b0 b1 b2 b3 b4 b5 x0 x1 x2 x3 x4 x5 f0 f1 f2 f3 f4 f5 c0 c1 c2 c3 c4 c5 y0 y1 y2 y3 y4 y5 y6 y7 z0 z1 z2 z3 z4 z5 z6 z7 g0 g1 g2 g3 g4 g5 g6 g7 n5
    rintro W ⟨hB, b2, b3⟩
    obtain ⟨x0, x1, x2, x3, x4, x5⟩ := b2.facts6
    obtain ⟨z0, z1, z2, z3, z4, z5, z6, z7⟩ := b3.facts8
    exact bodyPost_ret (v := .tuple #[.agg #[.int .i64 zz, .int .i64 (d2 - x), .int .i64 w1, .int .i64 w2, .int .i64 p1, .int .i64 p2], .agg #[.int .i64 0, .int .i64 0, .int .i64 0, .int .i64 0, .int .i64 x, .int .i64 mm, .int .i64 0, .int .i64 0]]) (by simp [results, Try.results38, go_sem, x0, x1, x2, x3, x4, x5, z0, z1, z2, z3, z4, z5, z6, z7]) rfl ⟨rfl, hB⟩

end Go.Proofs.Ytdadpfgcjffclaa
