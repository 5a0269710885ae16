/- MaltPlays returns true, whatever the malt and the steps are. -/
import Derived.Test.YtdadpfgcjffclaaAwake
import Derived.Test.YtdadpfgcjffclaaRefPlay
import Derived.Test.YtdadpfgcjffclaaRefParts
namespace Go.Proofs.Ytdadpfgcjffclaa
open Go.RowKit Go.Sort
attribute [local go_sem] Oper.calm Oper.calmAt Oper.calmUpon

set_option maxHeartbeats 8000000 in
set_option maxRecDepth 100000 in
theorem law_plays (d1 d2 w1 w2 p1 p2 : Int) (A : Option Addr) (c : Nat) (l : List StepV) (w : World) (hp : StepsAt w A l) (hlen : l.length ≤ 140737488355328) :
    Calls Try.prog 3 #[.agg #[.int .i64 d1, .int .i64 d2, .int .i64 w1, .int .i64 w2, .int .i64 p1, .int .i64 p2], .slice A l.length c] w fun e w' => e = .returned (.bool true) ∧ Below w.heap.size w w' := by
  have h1 := Lib.hid fun W (hW : StepsAt W A l) => Play_any d1 d2 w1 w2 p1 p2 A c l W (Lib.hid hW) hlen
  have h2 := Lib.hid fun W (hW : StepsAt W A l) => refPlay_any d1 d2 w1 w2 p1 p2 A c l W (Lib.hid hW) hlen
  have h3 := Lib.hid fun W => Moisture_any d1 d2 w1 w2 p1 p2 W
  have h4 := Lib.hid fun W => refMoisture_any d1 d2 w1 w2 p1 p2 W
  have h5 := Lib.hid fun W => Phenols_any d1 d2 w1 w2 p1 p2 W
  have h6 := Lib.hid fun W => refPhenols_any d1 d2 w1 w2 p1 p2 W
  have h7 := Lib.hid awake_any
  have hp' := Lib.hid hp
  clear hp
  generalize playR d1 d2 w1 w2 p1 p2 l = rr at *
  obtain ⟨⟨qd1, qd2, qw1, qw2, qp1, qp2, qt1, qt2, qg1, qg2, qr1, qr2, qs1, qs2⟩, idx, code⟩ := rr
  simp only [playV, Gr.malt, Gr.loss] at h1 h2
  have hcond : (decide ((60 : Int) < l.length) = true ∧ decide ((l.length : Int) ≤ 256) = true) ∨ (decide ((60 : Int) < l.length) = true ∧ decide ((l.length : Int) ≤ 256) = false ∧ decide ((260 : Int) < l.length) = true) ∨ (decide ((60 : Int) < l.length) = false ∧ decide ((260 : Int) < l.length) = false) ∨ (decide ((60 : Int) < l.length) = true ∧ decide ((l.length : Int) ≤ 256) = false ∧ decide ((260 : Int) < l.length) = false) := by
    simp only [decide_eq_true_eq, decide_eq_false_iff_not]
    omega
  clear hlen
  rcases hcond with ⟨v1, v2⟩ | ⟨v1, v2, v3⟩ | ⟨v1, v3⟩ | ⟨v1, v2, v3⟩
  · clear h1 h2 h3 h4 h5 h6 hp'
    go_enter Try.func3, Try.ntmps3
    go_wp2_with fail
    refine calls_world (fun W => Below w.heap.size w W) ((Below.refl _ _).alloc (Nat.le_refl _) _) ?_
    rintro W0 hB
    refine (h7.out _).mono ?_
    rintro e W9 ⟨rfl, hb⟩
    go_wp2_with fail
    go_ret
    exact ⟨rfl, hB.trans (hb.mono hB.size)⟩
  · clear h1 h2 h3 h4 h5 h6 hp'
    go_enter Try.func3, Try.ntmps3
    go_wp2_with fail
    refine calls_world (fun W => Below w.heap.size w W) ((Below.refl _ _).alloc (Nat.le_refl _) _) ?_
    rintro W0 hB
    refine (h7.out _).mono ?_
    rintro e W9 ⟨rfl, hb⟩
    go_wp2_with fail
    go_ret
    exact ⟨rfl, hB.trans (hb.mono hB.size)⟩
  · go_enter Try.func3, Try.ntmps3
    go_wp2_with fail
    refine calls_world (fun W => Below w.heap.size w W ∧ Blk W (w.heap.size) 25 #[.int .i64 d1, .int .i64 d2, .int .i64 w1, .int .i64 w2, .int .i64 p1, .int .i64 p2]) ⟨(Below.refl _ _).alloc (Nat.le_refl _) _, Blk.new _ _ _⟩ ?_
    rintro W0 ⟨hB, b0⟩
    obtain ⟨x0, x1, x2, x3, x4, x5⟩ := b0.facts6
    go_wp2_with fail
    refine (h1.out _ (hp'.out.below hB)).mono ?_
    rintro e W1 ⟨rfl, hb⟩
    replace b0 := b0.below hb b0.lt
    replace hB := hB.trans (hb.mono hB.size)
    clear hb x0 x1 x2 x3 x4 x5
    clear h1
    go_upto_region 4 with fail
    refine wp_world (fun W => Below w.heap.size w W ∧ Blk W (w.heap.size) 25 #[.int .i64 d1, .int .i64 d2, .int .i64 w1, .int .i64 w2, .int .i64 p1, .int .i64 p2] ∧ Blk W (W1.heap.size) 25 #[.int .i64 qd1, .int .i64 qd2, .int .i64 qw1, .int .i64 qw2, .int .i64 qp1, .int .i64 qp2] ∧ Blk W (W1.heap.size + 1) 29 #[.int .i64 qt1, .int .i64 qt2, .int .i64 qg1, .int .i64 qg2, .int .i64 qr1, .int .i64 qr2, .int .i64 qs1, .int .i64 qs2]) ⟨(hB.alloc hB.size _).alloc (by have := hB.size; simp; omega) _, (b0.alloc _).alloc _, (Blk.new _ _ _).alloc _, blk_at (by simp)⟩ ?_
    clear hB b0
    generalize W1.heap.size = g21 at *
    rintro W2 ⟨hB, b0, b5, b6⟩
    obtain ⟨x0, x1, x2, x3, x4, x5⟩ := b0.facts6
    go_wp2_with fail
    refine (h2.out _ (hp'.out.below hB)).mono ?_
    rintro e W3 ⟨rfl, hb⟩
    replace b0 := b0.below hb b0.lt
    replace b5 := b5.below hb b5.lt
    replace b6 := b6.below hb b6.lt
    replace hB := hB.trans (hb.mono hB.size)
    clear hb x0 x1 x2 x3 x4 x5
    clear h2 hp'
    go_upto_region 5 with fail
    refine wp_world (fun W => Below w.heap.size w W ∧ Blk W (w.heap.size) 25 #[.int .i64 d1, .int .i64 d2, .int .i64 w1, .int .i64 w2, .int .i64 p1, .int .i64 p2] ∧ Blk W (g21) 25 #[.int .i64 qd1, .int .i64 qd2, .int .i64 qw1, .int .i64 qw2, .int .i64 qp1, .int .i64 qp2] ∧ Blk W (g21 + 1) 29 #[.int .i64 qt1, .int .i64 qt2, .int .i64 qg1, .int .i64 qg2, .int .i64 qr1, .int .i64 qr2, .int .i64 qs1, .int .i64 qs2] ∧ Blk W (W3.heap.size) 25 #[.int .i64 qd1, .int .i64 qd2, .int .i64 qw1, .int .i64 qw2, .int .i64 qp1, .int .i64 qp2] ∧ Blk W (W3.heap.size + 1) 29 #[.int .i64 qt1, .int .i64 qt2, .int .i64 qg1, .int .i64 qg2, .int .i64 qr1, .int .i64 qr2, .int .i64 qs1, .int .i64 qs2]) ⟨(hB.alloc hB.size _).alloc (by have := hB.size; simp; omega) _, (b0.alloc _).alloc _, (b5.alloc _).alloc _, (b6.alloc _).alloc _, (Blk.new _ _ _).alloc _, blk_at (by simp)⟩ ?_
    clear hB b0 b5 b6
    generalize W3.heap.size = g23 at *
    rintro W4 ⟨hB, b0, b5, b6, b9, b10⟩
    obtain ⟨x0, x1, x2, x3, x4, x5⟩ := b0.facts6
    go_wp2_with fail
    refine (h3.out _).mono ?_
    rintro e W5 ⟨ma, mb, mk, rfl, hr, hb⟩
    replace b0 := b0.below hb b0.lt
    replace b5 := b5.below hb b5.lt
    replace b6 := b6.below hb b6.lt
    replace b9 := b9.below hb b9.lt
    replace b10 := b10.below hb b10.lt
    replace hB := hB.trans (hb.mono hB.size)
    clear hb x0 x1 x2 x3 x4 x5
    replace hr := Lib.hid hr
    clear h3
    go_upto_region 6 with fail
    refine wp_world (fun W => Below w.heap.size w W ∧ Blk W (w.heap.size) 25 #[.int .i64 d1, .int .i64 d2, .int .i64 w1, .int .i64 w2, .int .i64 p1, .int .i64 p2] ∧ Blk W (g21) 25 #[.int .i64 qd1, .int .i64 qd2, .int .i64 qw1, .int .i64 qw2, .int .i64 qp1, .int .i64 qp2] ∧ Blk W (g21 + 1) 29 #[.int .i64 qt1, .int .i64 qt2, .int .i64 qg1, .int .i64 qg2, .int .i64 qr1, .int .i64 qr2, .int .i64 qs1, .int .i64 qs2] ∧ Blk W (g23) 25 #[.int .i64 qd1, .int .i64 qd2, .int .i64 qw1, .int .i64 qw2, .int .i64 qp1, .int .i64 qp2] ∧ Blk W (g23 + 1) 29 #[.int .i64 qt1, .int .i64 qt2, .int .i64 qg1, .int .i64 qg2, .int .i64 qr1, .int .i64 qr2, .int .i64 qs1, .int .i64 qs2] ∧ Blk W (W5.heap.size) 23 #[.int .i64 ma, .int .i64 mb]) ⟨hB.alloc hB.size _, b0.alloc _, b5.alloc _, b6.alloc _, b9.alloc _, b10.alloc _, Blk.new _ _ _⟩ ?_
    clear hB b0 b5 b6 b9 b10
    generalize W5.heap.size = g25 at *
    rintro W6 ⟨hB, b0, b5, b6, b9, b10, b13⟩
    obtain ⟨x0, x1, x2, x3, x4, x5⟩ := b0.facts6
    go_wp2_with fail
    refine (h4.out _).mono ?_
    rintro e W7 ⟨ma', mb', mk', rfl, hr', hb⟩
    replace b0 := b0.below hb b0.lt
    replace b5 := b5.below hb b5.lt
    replace b6 := b6.below hb b6.lt
    replace b9 := b9.below hb b9.lt
    replace b10 := b10.below hb b10.lt
    replace b13 := b13.below hb b13.lt
    replace hB := hB.trans (hb.mono hB.size)
    clear hb x0 x1 x2 x3 x4 x5
    obtain ⟨e1, e2, e3⟩ := hr.out.uniq hr'
    replace e1 := e1.symm
    replace e2 := e2.symm
    replace e3 := e3.symm
    subst e1 e2 e3
    clear h4 hr hr'
    go_upto_region 7 with fail
    refine wp_world (fun W => Below w.heap.size w W ∧ Blk W (w.heap.size) 25 #[.int .i64 d1, .int .i64 d2, .int .i64 w1, .int .i64 w2, .int .i64 p1, .int .i64 p2] ∧ Blk W (g21) 25 #[.int .i64 qd1, .int .i64 qd2, .int .i64 qw1, .int .i64 qw2, .int .i64 qp1, .int .i64 qp2] ∧ Blk W (g21 + 1) 29 #[.int .i64 qt1, .int .i64 qt2, .int .i64 qg1, .int .i64 qg2, .int .i64 qr1, .int .i64 qr2, .int .i64 qs1, .int .i64 qs2] ∧ Blk W (g23) 25 #[.int .i64 qd1, .int .i64 qd2, .int .i64 qw1, .int .i64 qw2, .int .i64 qp1, .int .i64 qp2] ∧ Blk W (g23 + 1) 29 #[.int .i64 qt1, .int .i64 qt2, .int .i64 qg1, .int .i64 qg2, .int .i64 qr1, .int .i64 qr2, .int .i64 qs1, .int .i64 qs2] ∧ Blk W (g25) 23 #[.int .i64 ma, .int .i64 mb] ∧ Blk W (W7.heap.size) 23 #[.int .i64 ma, .int .i64 mb]) ⟨hB.alloc hB.size _, b0.alloc _, b5.alloc _, b6.alloc _, b9.alloc _, b10.alloc _, b13.alloc _, Blk.new _ _ _⟩ ?_
    clear hB b0 b5 b6 b9 b10 b13
    generalize W7.heap.size = g27 at *
    rintro W8 ⟨hB, b0, b5, b6, b9, b10, b13, b15⟩
    obtain ⟨x0, x1, x2, x3, x4, x5⟩ := b0.facts6
    go_wp2_with fail
    refine (h5.out _).mono ?_
    rintro e W9 ⟨na, nb, nk, rfl, hr, hb⟩
    replace b0 := b0.below hb b0.lt
    replace b5 := b5.below hb b5.lt
    replace b6 := b6.below hb b6.lt
    replace b9 := b9.below hb b9.lt
    replace b10 := b10.below hb b10.lt
    replace b13 := b13.below hb b13.lt
    replace b15 := b15.below hb b15.lt
    replace hB := hB.trans (hb.mono hB.size)
    clear hb x0 x1 x2 x3 x4 x5
    replace hr := Lib.hid hr
    clear h5
    go_upto_region 8 with fail
    refine wp_world (fun W => Below w.heap.size w W ∧ Blk W (w.heap.size) 25 #[.int .i64 d1, .int .i64 d2, .int .i64 w1, .int .i64 w2, .int .i64 p1, .int .i64 p2] ∧ Blk W (g21) 25 #[.int .i64 qd1, .int .i64 qd2, .int .i64 qw1, .int .i64 qw2, .int .i64 qp1, .int .i64 qp2] ∧ Blk W (g21 + 1) 29 #[.int .i64 qt1, .int .i64 qt2, .int .i64 qg1, .int .i64 qg2, .int .i64 qr1, .int .i64 qr2, .int .i64 qs1, .int .i64 qs2] ∧ Blk W (g23) 25 #[.int .i64 qd1, .int .i64 qd2, .int .i64 qw1, .int .i64 qw2, .int .i64 qp1, .int .i64 qp2] ∧ Blk W (g23 + 1) 29 #[.int .i64 qt1, .int .i64 qt2, .int .i64 qg1, .int .i64 qg2, .int .i64 qr1, .int .i64 qr2, .int .i64 qs1, .int .i64 qs2] ∧ Blk W (g25) 23 #[.int .i64 ma, .int .i64 mb] ∧ Blk W (g27) 23 #[.int .i64 ma, .int .i64 mb] ∧ Blk W (W9.heap.size) 23 #[.int .i64 na, .int .i64 nb]) ⟨hB.alloc hB.size _, b0.alloc _, b5.alloc _, b6.alloc _, b9.alloc _, b10.alloc _, b13.alloc _, b15.alloc _, Blk.new _ _ _⟩ ?_
    clear hB b0 b5 b6 b9 b10 b13 b15
    generalize W9.heap.size = g29 at *
    rintro W10 ⟨hB, b0, b5, b6, b9, b10, b13, b15, b17⟩
    obtain ⟨x0, x1, x2, x3, x4, x5⟩ := b0.facts6
    go_wp2_with fail
    refine (h6.out _).mono ?_
    rintro e W11 ⟨na', nb', nk', rfl, hr', hb⟩
    replace b0 := b0.below hb b0.lt
    replace b5 := b5.below hb b5.lt
    replace b6 := b6.below hb b6.lt
    replace b9 := b9.below hb b9.lt
    replace b10 := b10.below hb b10.lt
    replace b13 := b13.below hb b13.lt
    replace b15 := b15.below hb b15.lt
    replace b17 := b17.below hb b17.lt
    replace hB := hB.trans (hb.mono hB.size)
    clear hb x0 x1 x2 x3 x4 x5
    obtain ⟨e1, e2, e3⟩ := hr.out.uniq hr'
    replace e1 := e1.symm
    replace e2 := e2.symm
    replace e3 := e3.symm
    subst e1 e2 e3
    clear h6 hr hr'
    go_upto_region 9 with fail
    refine wp_world (fun W => Below w.heap.size w W ∧ Blk W (w.heap.size) 25 #[.int .i64 d1, .int .i64 d2, .int .i64 w1, .int .i64 w2, .int .i64 p1, .int .i64 p2] ∧ Blk W (g21) 25 #[.int .i64 qd1, .int .i64 qd2, .int .i64 qw1, .int .i64 qw2, .int .i64 qp1, .int .i64 qp2] ∧ Blk W (g21 + 1) 29 #[.int .i64 qt1, .int .i64 qt2, .int .i64 qg1, .int .i64 qg2, .int .i64 qr1, .int .i64 qr2, .int .i64 qs1, .int .i64 qs2] ∧ Blk W (g23) 25 #[.int .i64 qd1, .int .i64 qd2, .int .i64 qw1, .int .i64 qw2, .int .i64 qp1, .int .i64 qp2] ∧ Blk W (g23 + 1) 29 #[.int .i64 qt1, .int .i64 qt2, .int .i64 qg1, .int .i64 qg2, .int .i64 qr1, .int .i64 qr2, .int .i64 qs1, .int .i64 qs2] ∧ Blk W (g25) 23 #[.int .i64 ma, .int .i64 mb] ∧ Blk W (g27) 23 #[.int .i64 ma, .int .i64 mb] ∧ Blk W (g29) 23 #[.int .i64 na, .int .i64 nb] ∧ Blk W (W11.heap.size) 23 #[.int .i64 na, .int .i64 nb]) ⟨hB.alloc hB.size _, b0.alloc _, b5.alloc _, b6.alloc _, b9.alloc _, b10.alloc _, b13.alloc _, b15.alloc _, b17.alloc _, Blk.new _ _ _⟩ ?_
    clear hB b0 b5 b6 b9 b10 b13 b15 b17
    generalize W11.heap.size = g31 at *
    rintro W12 ⟨hB, b0, b5, b6, b9, b10, b13, b15, b17, b19⟩
    obtain ⟨x0, x1, x2, x3, x4, x5⟩ := b0.facts6
    clear x0 x1 x2 x3 x4 x5
    obtain ⟨x0, x1, x2, x3, x4, x5⟩ := b5.facts6
    obtain ⟨y0, y1, y2, y3, y4, y5, y6, y7⟩ := b6.facts8
    obtain ⟨u0, u1, u2, u3, u4, u5⟩ := b9.facts6
    obtain ⟨z0, z1, z2, z3, z4, z5, z6, z7⟩ := b10.facts8
    obtain ⟨i0, i1, _, _⟩ := b13.facts2
    obtain ⟨j0, j1, _, _⟩ := b15.facts2
    obtain ⟨k0, k1, _, _⟩ := b17.facts2
    obtain ⟨l0, l1, _, _⟩ := b19.facts2
    go_wp2_with fail
    refine (h7.out _).mono ?_
    rintro e W9 ⟨rfl, hb⟩
    go_wp2_with fail
    go_ret
    exact ⟨rfl, hB.trans (hb.mono hB.size)⟩
  · go_enter Try.func3, Try.ntmps3
    go_wp2_with fail
    refine calls_world (fun W => Below w.heap.size w W ∧ Blk W (w.heap.size) 25 #[.int .i64 d1, .int .i64 d2, .int .i64 w1, .int .i64 w2, .int .i64 p1, .int .i64 p2]) ⟨(Below.refl _ _).alloc (Nat.le_refl _) _, Blk.new _ _ _⟩ ?_
    rintro W0 ⟨hB, b0⟩
    obtain ⟨x0, x1, x2, x3, x4, x5⟩ := b0.facts6
    go_wp2_with fail
    refine (h1.out _ (hp'.out.below hB)).mono ?_
    rintro e W1 ⟨rfl, hb⟩
    replace b0 := b0.below hb b0.lt
    replace hB := hB.trans (hb.mono hB.size)
    clear hb x0 x1 x2 x3 x4 x5
    clear h1
    go_upto_region 4 with fail
    refine wp_world (fun W => Below w.heap.size w W ∧ Blk W (w.heap.size) 25 #[.int .i64 d1, .int .i64 d2, .int .i64 w1, .int .i64 w2, .int .i64 p1, .int .i64 p2] ∧ Blk W (W1.heap.size) 25 #[.int .i64 qd1, .int .i64 qd2, .int .i64 qw1, .int .i64 qw2, .int .i64 qp1, .int .i64 qp2] ∧ Blk W (W1.heap.size + 1) 29 #[.int .i64 qt1, .int .i64 qt2, .int .i64 qg1, .int .i64 qg2, .int .i64 qr1, .int .i64 qr2, .int .i64 qs1, .int .i64 qs2]) ⟨(hB.alloc hB.size _).alloc (by have := hB.size; simp; omega) _, (b0.alloc _).alloc _, (Blk.new _ _ _).alloc _, blk_at (by simp)⟩ ?_
    clear hB b0
    generalize W1.heap.size = g21 at *
    rintro W2 ⟨hB, b0, b5, b6⟩
    obtain ⟨x0, x1, x2, x3, x4, x5⟩ := b0.facts6
    go_wp2_with fail
    refine (h2.out _ (hp'.out.below hB)).mono ?_
    rintro e W3 ⟨rfl, hb⟩
    replace b0 := b0.below hb b0.lt
    replace b5 := b5.below hb b5.lt
    replace b6 := b6.below hb b6.lt
    replace hB := hB.trans (hb.mono hB.size)
    clear hb x0 x1 x2 x3 x4 x5
    clear h2 hp'
    go_upto_region 5 with fail
    refine wp_world (fun W => Below w.heap.size w W ∧ Blk W (w.heap.size) 25 #[.int .i64 d1, .int .i64 d2, .int .i64 w1, .int .i64 w2, .int .i64 p1, .int .i64 p2] ∧ Blk W (g21) 25 #[.int .i64 qd1, .int .i64 qd2, .int .i64 qw1, .int .i64 qw2, .int .i64 qp1, .int .i64 qp2] ∧ Blk W (g21 + 1) 29 #[.int .i64 qt1, .int .i64 qt2, .int .i64 qg1, .int .i64 qg2, .int .i64 qr1, .int .i64 qr2, .int .i64 qs1, .int .i64 qs2] ∧ Blk W (W3.heap.size) 25 #[.int .i64 qd1, .int .i64 qd2, .int .i64 qw1, .int .i64 qw2, .int .i64 qp1, .int .i64 qp2] ∧ Blk W (W3.heap.size + 1) 29 #[.int .i64 qt1, .int .i64 qt2, .int .i64 qg1, .int .i64 qg2, .int .i64 qr1, .int .i64 qr2, .int .i64 qs1, .int .i64 qs2]) ⟨(hB.alloc hB.size _).alloc (by have := hB.size; simp; omega) _, (b0.alloc _).alloc _, (b5.alloc _).alloc _, (b6.alloc _).alloc _, (Blk.new _ _ _).alloc _, blk_at (by simp)⟩ ?_
    clear hB b0 b5 b6
    generalize W3.heap.size = g23 at *
    rintro W4 ⟨hB, b0, b5, b6, b9, b10⟩
    obtain ⟨x0, x1, x2, x3, x4, x5⟩ := b0.facts6
    go_wp2_with fail
    refine (h3.out _).mono ?_
    rintro e W5 ⟨ma, mb, mk, rfl, hr, hb⟩
    replace b0 := b0.below hb b0.lt
    replace b5 := b5.below hb b5.lt
    replace b6 := b6.below hb b6.lt
    replace b9 := b9.below hb b9.lt
    replace b10 := b10.below hb b10.lt
    replace hB := hB.trans (hb.mono hB.size)
    clear hb x0 x1 x2 x3 x4 x5
    replace hr := Lib.hid hr
    clear h3
    go_upto_region 6 with fail
    refine wp_world (fun W => Below w.heap.size w W ∧ Blk W (w.heap.size) 25 #[.int .i64 d1, .int .i64 d2, .int .i64 w1, .int .i64 w2, .int .i64 p1, .int .i64 p2] ∧ Blk W (g21) 25 #[.int .i64 qd1, .int .i64 qd2, .int .i64 qw1, .int .i64 qw2, .int .i64 qp1, .int .i64 qp2] ∧ Blk W (g21 + 1) 29 #[.int .i64 qt1, .int .i64 qt2, .int .i64 qg1, .int .i64 qg2, .int .i64 qr1, .int .i64 qr2, .int .i64 qs1, .int .i64 qs2] ∧ Blk W (g23) 25 #[.int .i64 qd1, .int .i64 qd2, .int .i64 qw1, .int .i64 qw2, .int .i64 qp1, .int .i64 qp2] ∧ Blk W (g23 + 1) 29 #[.int .i64 qt1, .int .i64 qt2, .int .i64 qg1, .int .i64 qg2, .int .i64 qr1, .int .i64 qr2, .int .i64 qs1, .int .i64 qs2] ∧ Blk W (W5.heap.size) 23 #[.int .i64 ma, .int .i64 mb]) ⟨hB.alloc hB.size _, b0.alloc _, b5.alloc _, b6.alloc _, b9.alloc _, b10.alloc _, Blk.new _ _ _⟩ ?_
    clear hB b0 b5 b6 b9 b10
    generalize W5.heap.size = g25 at *
    rintro W6 ⟨hB, b0, b5, b6, b9, b10, b13⟩
    obtain ⟨x0, x1, x2, x3, x4, x5⟩ := b0.facts6
    go_wp2_with fail
    refine (h4.out _).mono ?_
    rintro e W7 ⟨ma', mb', mk', rfl, hr', hb⟩
    replace b0 := b0.below hb b0.lt
    replace b5 := b5.below hb b5.lt
    replace b6 := b6.below hb b6.lt
    replace b9 := b9.below hb b9.lt
    replace b10 := b10.below hb b10.lt
    replace b13 := b13.below hb b13.lt
    replace hB := hB.trans (hb.mono hB.size)
    clear hb x0 x1 x2 x3 x4 x5
    obtain ⟨e1, e2, e3⟩ := hr.out.uniq hr'
    replace e1 := e1.symm
    replace e2 := e2.symm
    replace e3 := e3.symm
    subst e1 e2 e3
    clear h4 hr hr'
    go_upto_region 7 with fail
    refine wp_world (fun W => Below w.heap.size w W ∧ Blk W (w.heap.size) 25 #[.int .i64 d1, .int .i64 d2, .int .i64 w1, .int .i64 w2, .int .i64 p1, .int .i64 p2] ∧ Blk W (g21) 25 #[.int .i64 qd1, .int .i64 qd2, .int .i64 qw1, .int .i64 qw2, .int .i64 qp1, .int .i64 qp2] ∧ Blk W (g21 + 1) 29 #[.int .i64 qt1, .int .i64 qt2, .int .i64 qg1, .int .i64 qg2, .int .i64 qr1, .int .i64 qr2, .int .i64 qs1, .int .i64 qs2] ∧ Blk W (g23) 25 #[.int .i64 qd1, .int .i64 qd2, .int .i64 qw1, .int .i64 qw2, .int .i64 qp1, .int .i64 qp2] ∧ Blk W (g23 + 1) 29 #[.int .i64 qt1, .int .i64 qt2, .int .i64 qg1, .int .i64 qg2, .int .i64 qr1, .int .i64 qr2, .int .i64 qs1, .int .i64 qs2] ∧ Blk W (g25) 23 #[.int .i64 ma, .int .i64 mb] ∧ Blk W (W7.heap.size) 23 #[.int .i64 ma, .int .i64 mb]) ⟨hB.alloc hB.size _, b0.alloc _, b5.alloc _, b6.alloc _, b9.alloc _, b10.alloc _, b13.alloc _, Blk.new _ _ _⟩ ?_
    clear hB b0 b5 b6 b9 b10 b13
    generalize W7.heap.size = g27 at *
    rintro W8 ⟨hB, b0, b5, b6, b9, b10, b13, b15⟩
    obtain ⟨x0, x1, x2, x3, x4, x5⟩ := b0.facts6
    go_wp2_with fail
    refine (h5.out _).mono ?_
    rintro e W9 ⟨na, nb, nk, rfl, hr, hb⟩
    replace b0 := b0.below hb b0.lt
    replace b5 := b5.below hb b5.lt
    replace b6 := b6.below hb b6.lt
    replace b9 := b9.below hb b9.lt
    replace b10 := b10.below hb b10.lt
    replace b13 := b13.below hb b13.lt
    replace b15 := b15.below hb b15.lt
    replace hB := hB.trans (hb.mono hB.size)
    clear hb x0 x1 x2 x3 x4 x5
    replace hr := Lib.hid hr
    clear h5
    go_upto_region 8 with fail
    refine wp_world (fun W => Below w.heap.size w W ∧ Blk W (w.heap.size) 25 #[.int .i64 d1, .int .i64 d2, .int .i64 w1, .int .i64 w2, .int .i64 p1, .int .i64 p2] ∧ Blk W (g21) 25 #[.int .i64 qd1, .int .i64 qd2, .int .i64 qw1, .int .i64 qw2, .int .i64 qp1, .int .i64 qp2] ∧ Blk W (g21 + 1) 29 #[.int .i64 qt1, .int .i64 qt2, .int .i64 qg1, .int .i64 qg2, .int .i64 qr1, .int .i64 qr2, .int .i64 qs1, .int .i64 qs2] ∧ Blk W (g23) 25 #[.int .i64 qd1, .int .i64 qd2, .int .i64 qw1, .int .i64 qw2, .int .i64 qp1, .int .i64 qp2] ∧ Blk W (g23 + 1) 29 #[.int .i64 qt1, .int .i64 qt2, .int .i64 qg1, .int .i64 qg2, .int .i64 qr1, .int .i64 qr2, .int .i64 qs1, .int .i64 qs2] ∧ Blk W (g25) 23 #[.int .i64 ma, .int .i64 mb] ∧ Blk W (g27) 23 #[.int .i64 ma, .int .i64 mb] ∧ Blk W (W9.heap.size) 23 #[.int .i64 na, .int .i64 nb]) ⟨hB.alloc hB.size _, b0.alloc _, b5.alloc _, b6.alloc _, b9.alloc _, b10.alloc _, b13.alloc _, b15.alloc _, Blk.new _ _ _⟩ ?_
    clear hB b0 b5 b6 b9 b10 b13 b15
    generalize W9.heap.size = g29 at *
    rintro W10 ⟨hB, b0, b5, b6, b9, b10, b13, b15, b17⟩
    obtain ⟨x0, x1, x2, x3, x4, x5⟩ := b0.facts6
    go_wp2_with fail
    refine (h6.out _).mono ?_
    rintro e W11 ⟨na', nb', nk', rfl, hr', hb⟩
    replace b0 := b0.below hb b0.lt
    replace b5 := b5.below hb b5.lt
    replace b6 := b6.below hb b6.lt
    replace b9 := b9.below hb b9.lt
    replace b10 := b10.below hb b10.lt
    replace b13 := b13.below hb b13.lt
    replace b15 := b15.below hb b15.lt
    replace b17 := b17.below hb b17.lt
    replace hB := hB.trans (hb.mono hB.size)
    clear hb x0 x1 x2 x3 x4 x5
    obtain ⟨e1, e2, e3⟩ := hr.out.uniq hr'
    replace e1 := e1.symm
    replace e2 := e2.symm
    replace e3 := e3.symm
    subst e1 e2 e3
    clear h6 hr hr'
    go_upto_region 9 with fail
    refine wp_world (fun W => Below w.heap.size w W ∧ Blk W (w.heap.size) 25 #[.int .i64 d1, .int .i64 d2, .int .i64 w1, .int .i64 w2, .int .i64 p1, .int .i64 p2] ∧ Blk W (g21) 25 #[.int .i64 qd1, .int .i64 qd2, .int .i64 qw1, .int .i64 qw2, .int .i64 qp1, .int .i64 qp2] ∧ Blk W (g21 + 1) 29 #[.int .i64 qt1, .int .i64 qt2, .int .i64 qg1, .int .i64 qg2, .int .i64 qr1, .int .i64 qr2, .int .i64 qs1, .int .i64 qs2] ∧ Blk W (g23) 25 #[.int .i64 qd1, .int .i64 qd2, .int .i64 qw1, .int .i64 qw2, .int .i64 qp1, .int .i64 qp2] ∧ Blk W (g23 + 1) 29 #[.int .i64 qt1, .int .i64 qt2, .int .i64 qg1, .int .i64 qg2, .int .i64 qr1, .int .i64 qr2, .int .i64 qs1, .int .i64 qs2] ∧ Blk W (g25) 23 #[.int .i64 ma, .int .i64 mb] ∧ Blk W (g27) 23 #[.int .i64 ma, .int .i64 mb] ∧ Blk W (g29) 23 #[.int .i64 na, .int .i64 nb] ∧ Blk W (W11.heap.size) 23 #[.int .i64 na, .int .i64 nb]) ⟨hB.alloc hB.size _, b0.alloc _, b5.alloc _, b6.alloc _, b9.alloc _, b10.alloc _, b13.alloc _, b15.alloc _, b17.alloc _, Blk.new _ _ _⟩ ?_
    clear hB b0 b5 b6 b9 b10 b13 b15 b17
    generalize W11.heap.size = g31 at *
    rintro W12 ⟨hB, b0, b5, b6, b9, b10, b13, b15, b17, b19⟩
    obtain ⟨x0, x1, x2, x3, x4, x5⟩ := b0.facts6
    clear x0 x1 x2 x3 x4 x5
    obtain ⟨x0, x1, x2, x3, x4, x5⟩ := b5.facts6
    obtain ⟨y0, y1, y2, y3, y4, y5, y6, y7⟩ := b6.facts8
    obtain ⟨u0, u1, u2, u3, u4, u5⟩ := b9.facts6
    obtain ⟨z0, z1, z2, z3, z4, z5, z6, z7⟩ := b10.facts8
    obtain ⟨i0, i1, _, _⟩ := b13.facts2
    obtain ⟨j0, j1, _, _⟩ := b15.facts2
    obtain ⟨k0, k1, _, _⟩ := b17.facts2
    obtain ⟨l0, l1, _, _⟩ := b19.facts2
    go_wp2_with fail
    refine (h7.out _).mono ?_
    rintro e W9 ⟨rfl, hb⟩
    go_wp2_with fail
    go_ret
    exact ⟨rfl, hB.trans (hb.mono hB.size)⟩
end Go.Proofs.Ytdadpfgcjffclaa
