/- next: what is known behind a step, or its error; malt, loss. -/
import Derived.Test.YtdadpfgcjffclaaDone0
import Derived.Test.YtdadpfgcjffclaaDone1
import Derived.Test.YtdadpfgcjffclaaDone2
import Derived.Test.YtdadpfgcjffclaaDone3
import Derived.Test.YtdadpfgcjffclaaDone4
import Derived.Test.YtdadpfgcjffclaaDone5
import Derived.Test.YtdadpfgcjffclaaValid
import Derived.Test.YtdadpfgcjffclaaToo
namespace Go.Proofs.Ytdadpfgcjffclaa
open Go.RowKit Go.Sort
attribute [local go_sem] Oper.calm Oper.calmAt Oper.calmUpon

def doneG (o : Option Gr) : Gr × Int := match o with
  | some h => (h, 0)
  | none => (Gr.zero, 4)
def afterG (o : Option Gr) : Gr × Int := match o with
  | some h => if tooG h then (Gr.zero, 12) else (h, 0)
  | none => (Gr.zero, 4)
theorem nextG_eq (g : Gr) (k x y : Int) : nextG g k x y = if StepOk k x y then afterG (doG g k x y) else (Gr.zero, 1) := by
  unfold nextG afterG
  split
  · cases doG g k x y <;> rfl
  · rfl
theorem done_any (g : Gr) (k x y : Int) (w : World) (hg : g.Ok) (hs : StepOk k x y) :
    Calls Try.prog 56 #[.agg g.cells, .agg #[.int .i64 k, .int .i64 x, .int .i64 y]] w fun e w' => e = .returned (.tuple #[.agg (doneG (doG g k x y)).1.cells, .int .i64 (doneG (doG g k x y)).2]) ∧ Below w.heap.size w w' := by
  have hd := fun W => does_any g k x y W hg hs
  obtain ⟨d1, d2, w1, w2, p1, p2, t1, t2, g1, g2, r1, r2, s1, s2⟩ := g
  obtain ⟨k0, k5, hx⟩ := hs
  generalize doG ⟨d1, d2, w1, w2, p1, p2, t1, t2, g1, g2, r1, r2, s1, s2⟩ k x y = o at *
  have hk : k = 0 ∨ k = 1 ∨ k = 2 ∨ k = 3 ∨ k = 4 ∨ k = 5 := by omega
  cases o with
  | none =>
    rcases hk with rfl | rfl | rfl | rfl | rfl | rfl
    · exact done_bad0 _ _ _ _ _ _ _ _ _ _ _ _ _ _ x y w hx.2.1 (Lib.hid hd)
    · exact done_bad1 _ _ _ _ _ _ _ _ _ _ _ _ _ _ x y w hx.2.1 (Lib.hid hd)
    · exact done_bad2 _ _ _ _ _ _ _ _ _ _ _ _ _ _ x y w hx.2.1 (Lib.hid hd)
    · exact done_bad3 _ _ _ _ _ _ _ _ _ _ _ _ _ _ x y w hx.2.1 (Lib.hid hd)
    · exact done_bad4 _ _ _ _ _ _ _ _ _ _ _ _ _ _ x y w hx.2.1 (Lib.hid hd)
    · exact done_bad5 _ _ _ _ _ _ _ _ _ _ _ _ _ _ x y w hx.2.1 (Lib.hid hd)
  | some h =>
    rcases hk with rfl | rfl | rfl | rfl | rfl | rfl
    · exact done_ok0 _ _ _ _ _ _ _ _ _ _ _ _ _ _ x y h w hx.2.1 (Lib.hid hd)
    · exact done_ok1 _ _ _ _ _ _ _ _ _ _ _ _ _ _ x y h w hx.2.1 (Lib.hid hd)
    · exact done_ok2 _ _ _ _ _ _ _ _ _ _ _ _ _ _ x y h w hx.2.1 (Lib.hid hd)
    · exact done_ok3 _ _ _ _ _ _ _ _ _ _ _ _ _ _ x y h w hx.2.1 (Lib.hid hd)
    · exact done_ok4 _ _ _ _ _ _ _ _ _ _ _ _ _ _ x y h w hx.2.1 (Lib.hid hd)
    · exact done_ok5 _ _ _ _ _ _ _ _ _ _ _ _ _ _ x y h w hx.2.1 (Lib.hid hd)

set_option maxHeartbeats 4000000 in
set_option maxRecDepth 100000 in
theorem next_any (g : Gr) (k x y : Int) (w : World) (hg : g.Ok) :
    Calls Try.prog 35 #[.agg g.cells, .agg #[.int .i64 k, .int .i64 x, .int .i64 y]] w fun e w' => e = .returned (.tuple #[.agg (nextG g k x y).1.cells, .int .i64 (nextG g k x y).2]) ∧ Below w.heap.size w w' := by
  have hv := Lib.hid fun W => validStep_any k x y W
  have hd := Lib.hid fun (hs : StepOk k x y) W => done_any g k x y W hg hs
  have hfin := Lib.hid (show ∀ r : Gr × Int, nextG g k x y = r → ∀ W, Below w.heap.size w W → (Ending.returned (.tuple #[.agg r.1.cells, .int .i64 r.2]) = .returned (.tuple #[.agg (nextG g k x y).1.cells, .int .i64 (nextG g k x y).2]) ∧ Below w.heap.size w W) from fun r h W hB => ⟨by rw [h], hB⟩)
  have hnx := Lib.hid (nextG_eq g k x y)
  have htoo := Lib.hid tooMuch_any
  generalize nextG g k x y = rr at *
  generalize doG g k x y = o at *
  clear hg
  obtain ⟨d1, d2, w1, w2, p1, p2, t1, t2, g1, g2, r1, r2, s1, s2⟩ := g
  simp only [Gr.cells] at hd ⊢
  go_enter Try.func35, Try.ntmps35
  go_wp2_with fail
  refine calls_world (fun W => Below w.heap.size w W ∧ Blk W w.heap.size 75 #[.int .i64 d1, .int .i64 d2, .int .i64 w1, .int .i64 w2, .int .i64 p1, .int .i64 p2, .int .i64 t1, .int .i64 t2, .int .i64 g1, .int .i64 g2, .int .i64 r1, .int .i64 r2, .int .i64 s1, .int .i64 s2] ∧ Blk W (w.heap.size + 1) 54 #[.int .i64 k, .int .i64 x, .int .i64 y] ∧ Blk W (w.heap.size + 1 + 1) 75 zero14)
    ⟨(((Below.refl _ _).alloc (Nat.le_refl _) _).alloc (by simp) _).alloc (by simp; omega) _, ((Blk.new _ _ _).alloc _).alloc _, (blk_at (by simp)).alloc _, blk_at (by simp)⟩ ?_
  rintro W0 ⟨hB0, b0, b1, b2⟩
  refine (hv.out _).mono ?_
  rintro e W1 ⟨r, rfl, hr, hb⟩
  replace b0 := b0.below hb b0.lt
  replace b1 := b1.below hb b1.lt
  replace b2 := b2.below hb b2.lt
  have hB := hB0.trans (hb.mono hB0.size)
  clear hb hB0 hv
  obtain ⟨z0, z1, z2, z3, z4, z5, z6, z7, z8, z9, z10, z11, z12, z13⟩ := Blk.facts14 b2
  obtain ⟨f0, f1, f2, f3, f4, f5, f6, f7, f8, f9, f10, f11, f12, f13⟩ := Blk.frozen14 b2
  have n2 := b2.lt
  cases r with
  | false =>
    replace hfin := Lib.hid (hfin.out (Gr.zero, 1) (by rw [hnx.out, if_neg (fun h => Bool.noConfusion (hr.2 h))]))
    clear hr hd hnx
    go_wp2_with fail
    refine ret_world (fun W => Below w.heap.size w W ∧ Blk W (w.heap.size + 1 + 1) 75 zero14) ⟨below14 hB (by omega), Blk.sets14 b2⟩ ?_
    clear hB b0 b1 b2 z0 z1 z2 z3 z4 z5 z6 z7 z8 z9 z10 z11 z12 z13 f0 f1 f2 f3 f4 f5 f6 f7 f8 f9 f10 f11 f12 f13
    rintro W ⟨hB, b2⟩
    obtain ⟨z0, z1, z2, z3, z4, z5, z6, z7, z8, z9, z10, z11, z12, z13⟩ := Blk.facts14 b2
    exact bodyPost_ret (v := .tuple #[.agg zero14, .int .i64 1]) (by simp [zero14, results, Try.results35, go_sem, z0, z1, z2, z3, z4, z5, z6, z7, z8, z9, z10, z11, z12, z13]) rfl (hfin.out _ hB)
  | true =>
    have hs := hr.1 rfl
    replace hd := Lib.hid (hd.out hs)
    replace hnx := Lib.hid (hnx.out.trans (if_pos hs))
    clear hr hs
    obtain ⟨c0, c1, c2, c3, c4, c5, c6, c7, c8, c9, c10, c11, c12, c13⟩ := Blk.facts14 b0
    obtain ⟨e0, e1, e2, _, _, _⟩ := Blk.facts3 b1
    cases o with
    | none =>
      replace hfin := Lib.hid (hfin.out (Gr.zero, 4) hnx.out)
      simp only [doneG, Gr.zero] at hd
      go_wp2_with fail
      refine (hd.out _).mono ?_
      rintro e W2 ⟨rfl, hb⟩
      replace b2 := b2.below hb b2.lt
      replace hB := hB.trans (hb.mono hB.size)
      clear hb hd hnx b0 b1 c0 c1 c2 c3 c4 c5 c6 c7 c8 c9 c10 c11 c12 c13 e0 e1 e2 z0 z1 z2 z3 z4 z5 z6 z7 z8 z9 z10 z11 z12 z13 f0 f1 f2 f3 f4 f5 f6 f7 f8 f9 f10 f11 f12 f13 n2
      go_upto_region 4 with fail
      refine wp_world (fun W => Below w.heap.size w W ∧ Blk W (w.heap.size + 1 + 1) 75 zero14 ∧ Blk W W2.heap.size 75 zero14 ∧ w.heap.size + 1 + 1 < W2.heap.size) ⟨hB.alloc hB.size _, b2.alloc _, Blk.new _ _ _, b2.lt⟩ ?_
      clear hB b2
      generalize W2.heap.size = g5
      rintro W3 ⟨hB, b2, b5, n5⟩
      obtain ⟨z0, z1, z2, z3, z4, z5, z6, z7, z8, z9, z10, z11, z12, z13⟩ := Blk.facts14 b2
      obtain ⟨c0, c1, c2, c3, c4, c5, c6, c7, c8, c9, c10, c11, c12, c13⟩ := Blk.facts14 b5
      obtain ⟨f0, f1, f2, f3, f4, f5, f6, f7, f8, f9, f10, f11, f12, f13⟩ := Blk.frozen14 b2
      go_wp2_with fail
      refine ret_world (fun W => Below w.heap.size w W ∧ Blk W (w.heap.size + 1 + 1) 75 zero14) ⟨below14 hB (by omega), Blk.sets14 b2⟩ ?_
      clear hB b5 b2 z0 z1 z2 z3 z4 z5 z6 z7 z8 z9 z10 z11 z12 z13 f0 f1 f2 f3 f4 f5 f6 f7 f8 f9 f10 f11 f12 f13 c0 c1 c2 c3 c4 c5 c6 c7 c8 c9 c10 c11 c12 c13
      rintro W ⟨hB, b2⟩
      obtain ⟨z0, z1, z2, z3, z4, z5, z6, z7, z8, z9, z10, z11, z12, z13⟩ := Blk.facts14 b2
      exact bodyPost_ret (v := .tuple #[.agg zero14, .int .i64 4]) (by simp [zero14, results, Try.results35, go_sem, z0, z1, z2, z3, z4, z5, z6, z7, z8, z9, z10, z11, z12, z13]) rfl (hfin.out _ hB)
    | some h =>
      replace htoo := Lib.hid fun W => htoo.out h W
      obtain ⟨hd1, hd2, hw1, hw2, hp1, hp2, ht1, ht2, hg1, hg2, hr1, hr2, hs1, hs2⟩ := h
      simp only [doneG, Gr.cells] at hd htoo
      go_wp2_with fail
      refine (hd.out _).mono ?_
      rintro e W2 ⟨rfl, hb⟩
      replace b2 := b2.below hb b2.lt
      replace hB := hB.trans (hb.mono hB.size)
      clear hb hd b0 b1 c0 c1 c2 c3 c4 c5 c6 c7 c8 c9 c10 c11 c12 c13 e0 e1 e2 z0 z1 z2 z3 z4 z5 z6 z7 z8 z9 z10 z11 z12 z13 f0 f1 f2 f3 f4 f5 f6 f7 f8 f9 f10 f11 f12 f13 n2
      go_upto_region 4 with fail
      refine wp_world (fun W => Below w.heap.size w W ∧ Blk W (w.heap.size + 1 + 1) 75 zero14 ∧ Blk W W2.heap.size 75 #[.int .i64 hd1, .int .i64 hd2, .int .i64 hw1, .int .i64 hw2, .int .i64 hp1, .int .i64 hp2, .int .i64 ht1, .int .i64 ht2, .int .i64 hg1, .int .i64 hg2, .int .i64 hr1, .int .i64 hr2, .int .i64 hs1, .int .i64 hs2] ∧ w.heap.size + 1 + 1 < W2.heap.size) ⟨hB.alloc hB.size _, b2.alloc _, Blk.new _ _ _, b2.lt⟩ ?_
      clear hB b2
      generalize W2.heap.size = g5
      rintro W3 ⟨hB, b2, b5, n5⟩
      obtain ⟨c0, c1, c2, c3, c4, c5, c6, c7, c8, c9, c10, c11, c12, c13⟩ := Blk.facts14 b5
      go_wp2_with fail
      refine (htoo.out _).mono ?_
      rintro e W4 ⟨rfl, hb⟩
      replace b2 := b2.below hb b2.lt
      replace b5 := b5.below hb b5.lt
      replace hB := hB.trans (hb.mono hB.size)
      clear hb htoo c0 c1 c2 c3 c4 c5 c6 c7 c8 c9 c10 c11 c12 c13
      obtain ⟨z0, z1, z2, z3, z4, z5, z6, z7, z8, z9, z10, z11, z12, z13⟩ := Blk.facts14 b2
      obtain ⟨c0, c1, c2, c3, c4, c5, c6, c7, c8, c9, c10, c11, c12, c13⟩ := Blk.facts14 b5
      obtain ⟨f0, f1, f2, f3, f4, f5, f6, f7, f8, f9, f10, f11, f12, f13⟩ := Blk.frozen14 b2
      cases ht : tooG ⟨hd1, hd2, hw1, hw2, hp1, hp2, ht1, ht2, hg1, hg2, hr1, hr2, hs1, hs2⟩ with
      | true =>
        replace hfin := Lib.hid (hfin.out (Gr.zero, 12) (by rw [hnx.out]; simp only [afterG, ht, if_true]))
        clear hnx ht
        go_wp2_with fail
        refine ret_world (fun W => Below w.heap.size w W ∧ Blk W (w.heap.size + 1 + 1) 75 zero14) ⟨below14 hB (by omega), Blk.sets14 b2⟩ ?_
        clear hB b5 b2 z0 z1 z2 z3 z4 z5 z6 z7 z8 z9 z10 z11 z12 z13 f0 f1 f2 f3 f4 f5 f6 f7 f8 f9 f10 f11 f12 f13 c0 c1 c2 c3 c4 c5 c6 c7 c8 c9 c10 c11 c12 c13
        rintro W ⟨hB, b2⟩
        obtain ⟨z0, z1, z2, z3, z4, z5, z6, z7, z8, z9, z10, z11, z12, z13⟩ := Blk.facts14 b2
        exact bodyPost_ret (v := .tuple #[.agg zero14, .int .i64 12]) (by simp [zero14, results, Try.results35, go_sem, z0, z1, z2, z3, z4, z5, z6, z7, z8, z9, z10, z11, z12, z13]) rfl (hfin.out _ hB)
      | false =>
        replace hfin := Lib.hid (hfin.out (⟨hd1, hd2, hw1, hw2, hp1, hp2, ht1, ht2, hg1, hg2, hr1, hr2, hs1, hs2⟩, 0) (by rw [hnx.out]; simp only [afterG, ht, Bool.false_eq_true, if_false]))
        clear hnx ht
        go_wp2_with fail
        refine ret_world (fun W => Below w.heap.size w W ∧ Blk W (w.heap.size + 1 + 1) 75 #[.int .i64 hd1, .int .i64 hd2, .int .i64 hw1, .int .i64 hw2, .int .i64 hp1, .int .i64 hp2, .int .i64 ht1, .int .i64 ht2, .int .i64 hg1, .int .i64 hg2, .int .i64 hr1, .int .i64 hr2, .int .i64 hs1, .int .i64 hs2]) ⟨below14 hB (by omega), Blk.sets14 b2⟩ ?_
        clear hB b5 b2 z0 z1 z2 z3 z4 z5 z6 z7 z8 z9 z10 z11 z12 z13 f0 f1 f2 f3 f4 f5 f6 f7 f8 f9 f10 f11 f12 f13 c0 c1 c2 c3 c4 c5 c6 c7 c8 c9 c10 c11 c12 c13
        rintro W ⟨hB, b2⟩
        obtain ⟨z0, z1, z2, z3, z4, z5, z6, z7, z8, z9, z10, z11, z12, z13⟩ := Blk.facts14 b2
        exact bodyPost_ret (v := .tuple #[.agg #[.int .i64 hd1, .int .i64 hd2, .int .i64 hw1, .int .i64 hw2, .int .i64 hp1, .int .i64 hp2, .int .i64 ht1, .int .i64 ht2, .int .i64 hg1, .int .i64 hg2, .int .i64 hr1, .int .i64 hr2, .int .i64 hs1, .int .i64 hs2], .int .i64 0]) (by simp [results, Try.results35, go_sem, z0, z1, z2, z3, z4, z5, z6, z7, z8, z9, z10, z11, z12, z13]) rfl (hfin.out _ hB)
end Go.Proofs.Ytdadpfgcjffclaa
