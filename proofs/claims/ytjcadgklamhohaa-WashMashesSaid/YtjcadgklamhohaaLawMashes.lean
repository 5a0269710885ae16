/- WashMashes returns true, whatever the mash is. -/
import Derived.Test.YtjcadgklamhohaaAlive
import Derived.Test.YtjcadgklamhohaaRefMash
namespace Go.Proofs.Ytjcadgklamhohaa
open Go.RowKit Go.Sort
attribute [local go_sem] Oper.calm Oper.calmAt Oper.calmUpon

set_option maxHeartbeats 4000000 in
set_option maxRecDepth 100000 in
theorem law_mashes (g m x1 x2 h1 h2 : Int) (w : World) :
    Calls Try.prog 3 #[.agg #[.int .i64 g, .int .i64 m, .int .i64 x1, .int .i64 x2, .int .i64 h1, .int .i64 h2]] w fun e w' => e = .returned (.bool true) ∧ Below w.heap.size w w' := by
  have k1 := Lib.hid fun W => Mash_any g m x1 x2 h1 h2 W
  have k2 := Lib.hid fun W => rMash_any g m x1 x2 h1 h2 W
  have k3 := Lib.hid alive_any
  generalize mashR g m x1 x2 h1 h2 = r at *
  obtain ⟨s1, s2, v1, v2, l1, l2, k⟩ := r
  simp only [wortV] at k1 k2
  go_enter Try.func3, Try.ntmps3
  go_wp2_with fail
  refine calls_world (fun W => Below w.heap.size w W ∧ Blk W w.heap.size 25 #[.int .i64 g, .int .i64 m, .int .i64 x1, .int .i64 x2, .int .i64 h1, .int .i64 h2]) ⟨(Below.refl _ _).alloc (Nat.le_refl _) _, Blk.new _ _ _⟩ ?_
  rintro W0 ⟨hB, b0⟩
  refine (k1.out _).mono ?_
  rintro e W1 ⟨rfl, hb⟩
  replace b0 := b0.below hb b0.lt
  replace hB := hB.trans (hb.mono hB.size)
  clear hb k1
  go_upto_region 2 with fail
  refine wp_world (fun W => Below w.heap.size w W ∧ Blk W w.heap.size 25 #[.int .i64 g, .int .i64 m, .int .i64 x1, .int .i64 x2, .int .i64 h1, .int .i64 h2] ∧ Blk W W1.heap.size 27 #[.int .i64 s1, .int .i64 s2, .int .i64 v1, .int .i64 v2] ∧ Blk W (W1.heap.size + 1) 23 #[.int .i64 l1, .int .i64 l2])
    ⟨(hB.alloc hB.size _).alloc (by have := hB.size; simp; omega) _, (b0.alloc _).alloc _, (Blk.new _ _ _).alloc _, blk_at (by simp)⟩ ?_
  clear hB b0
  generalize W1.heap.size = g1
  rintro W2 ⟨hB, b0, b1, b2⟩
  obtain ⟨c0, c1, c2, c3, c4, c5⟩ := b0.facts6
  go_wp2_with fail
  refine (k2.out _).mono ?_
  rintro e W3 ⟨rfl, hb⟩
  replace b1 := b1.below hb b1.lt
  replace b2 := b2.below hb b2.lt
  replace hB := hB.trans (hb.mono hB.size)
  clear hb k2 b0 c0 c1 c2 c3 c4 c5
  go_upto_region 3 with fail
  refine wp_world (fun W => Below w.heap.size w W ∧ Blk W g1 27 #[.int .i64 s1, .int .i64 s2, .int .i64 v1, .int .i64 v2] ∧ Blk W (g1 + 1) 23 #[.int .i64 l1, .int .i64 l2] ∧ Blk W W3.heap.size 27 #[.int .i64 s1, .int .i64 s2, .int .i64 v1, .int .i64 v2] ∧ Blk W (W3.heap.size + 1) 23 #[.int .i64 l1, .int .i64 l2])
    ⟨(hB.alloc hB.size _).alloc (by have := hB.size; simp; omega) _, (b1.alloc _).alloc _, (b2.alloc _).alloc _, (Blk.new _ _ _).alloc _, blk_at (by simp)⟩ ?_
  clear hB b1 b2
  generalize W3.heap.size = g3
  rintro W4 ⟨hB, b1, b2, b3, b4⟩
  obtain ⟨x0, x1', x2', x3, _, _, _, _⟩ := b1.facts4
  obtain ⟨y0, y1, _, _⟩ := b2.facts2
  obtain ⟨z0, z1, z2, z3, _, _, _, _⟩ := b3.facts4
  obtain ⟨u0, u1, _, _⟩ := b4.facts2
  go_wp2_with fail
  refine (k3.out _).mono ?_
  rintro e W5 ⟨rfl, hb⟩
  go_wp2_with fail
  go_ret
  exact ⟨rfl, hB.trans (hb.mono hB.size)⟩
end Go.Proofs.Ytjcadgklamhohaa
