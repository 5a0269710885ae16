/- What the document's own package says of any steps. -/
import Derived.Test.YtdadpfgcjffclaaRefStep
namespace Go.Proofs.Ytdadpfgcjffclaa
open Go.RowKit Go.Sort
attribute [local go_sem] Oper.calm Oper.calmAt Oper.calmUpon

/-- the greater one -/
def mx2 (x y : Int) : Int := if y > x then y else x
theorem mx2_lt {x y m : Int} : m < mx2 x y ↔ m < x ∨ m < y := by
  unfold mx2
  split <;> omega
theorem tooG_iff (h : Gr) : tooG h = true ↔ (((((1099511627776 < h.d2 ∨ 1099511627776 < h.w2) ∨ 1099511627776 < h.p2) ∨ 1099511627776 < h.t2) ∨ 1099511627776 < h.g2) ∨ 1099511627776 < h.r2) ∨ 1099511627776 < h.s2 := by
  simp only [tooG, Bool.or_eq_true, decide_eq_true_eq]
theorem run_max7 {P : Program} {w : World} (ts : Array TypeId) (t : TypeId) (a b c d e f g : Int) :
    (Builtin.max_ ts t #[.int .i64 a, .int .i64 b, .int .i64 c, .int .i64 d, .int .i64 e, .int .i64 f, .int .i64 g]).run P w = .ok (.int .i64 (mx2 (mx2 (mx2 (mx2 (mx2 (mx2 a b) c) d) e) f) g)) w := by
  simp [Builtin.max_, Builtin.max2, mx2]

/-- what a step makes of the rest -/
theorem play_cons (g : Gr) (s : StepV) (l : List StepV) (k : Nat) (hg : g.Ok) (h : Gr) (hh : behG g.d1 g.d2 g.w1 g.w2 g.p1 g.p2 s.k s.a s.b = h) :
    (¬ StepOk s.k s.a s.b → playG g (s :: l) k = (Gr.zero, k, 1)) ∧ (StepOk s.k s.a s.b → badG h → playG g (s :: l) k = (Gr.zero, k, 4)) ∧
    (StepOk s.k s.a s.b → ¬ badG h → (addG g h).Wide ∧ (tooG (addG g h) = true → playG g (s :: l) k = (Gr.zero, k, 12)) ∧ (tooG (addG g h) = false → playG g (s :: l) k = playG (addG g h) l (k + 1) ∧ (addG g h).Ok)) := by
  have e : playG g (s :: l) k = if (nextG g s.k s.a s.b).2 = 0 then playG (nextG g s.k s.a s.b).1 l (k + 1) else (Gr.zero, k, (nextG g s.k s.a s.b).2) := rfl
  refine ⟨fun h1 => ?_, fun h1 h2 => ?_, fun h1 h2 => ?_⟩
  · rw [e, nextG_eq, if_neg h1]; rfl
  · rw [e, nextG_eq, if_pos h1, doG_beh g _ _ _ hg h1, hh, if_pos h2]; rfl
  · have hd : doG g s.k s.a s.b = some (addG g h) := by rw [doG_beh g _ _ _ hg h1, hh, if_neg h2]
    refine ⟨doG_wide hg h1 hd, fun h3 => ?_, fun h3 => ?_⟩
    · rw [e, nextG_eq, if_pos h1, hd]; simp only [afterG, h3, if_true]; rfl
    · have hx : nextG g s.k s.a s.b = (addG g h, 0) := by rw [nextG_eq, if_pos h1, hd]; simp only [afterG, h3, Bool.false_eq_true, if_false]
      have hok := nextG_ok (k := s.k) (x := s.a) (y := s.b) hg (by rw [hx])
      rw [hx] at hok
      exact ⟨by rw [e, hx]; rfl, hok.1⟩

set_option maxHeartbeats 8000000 in
set_option maxRecDepth 100000 in
theorem refPlay_any (d1 d2 w1 w2 p1 p2 : Int) (A : Option Addr) (c : Nat) (l : List StepV) (w : World) (hp : Hid (StepsAt w A l)) (hlen : l.length ≤ 140737488355328) :
    Calls Try.prog 13 #[.agg #[.int .i64 d1, .int .i64 d2, .int .i64 w1, .int .i64 w2, .int .i64 p1, .int .i64 p2], .slice A l.length c] w fun e w' => e = .returned (playV (playR d1 d2 w1 w2 p1 p2 l)) ∧ Below w.heap.size w w' := by
  have hv := Lib.hid fun W => refMalt_any d1 d2 w1 w2 p1 p2 W
  have hfin := Lib.hid (show ∀ r : Gr × Nat × Int, playR d1 d2 w1 w2 p1 p2 l = r → ∀ W, Below w.heap.size w W → (Ending.returned (playV r) = .returned (playV (playR d1 d2 w1 w2 p1 p2 l)) ∧ Below w.heap.size w W) from fun r h W hB => ⟨by rw [h], hB⟩)
  have hdef := Lib.hid (show playR d1 d2 w1 w2 p1 p2 l = if MaltOk d1 d2 w1 w2 p1 p2 then (if 256 < l.length then (Gr.zero, 0, 3) else playG ⟨d1, d2, w1, w2, p1, p2, 0, 0, 0, 0, 0, 0, 0, 0⟩ l 0) else (Gr.zero, 0, 1) from rfl)
  generalize playR d1 d2 w1 w2 p1 p2 l = rr at *
  go_enter Try.func13, Try.ntmps13
  go_wp2_with fail
  refine calls_world (fun W => Below w.heap.size w W ∧ Blk W w.heap.size 25 #[.int .i64 d1, .int .i64 d2, .int .i64 w1, .int .i64 w2, .int .i64 p1, .int .i64 p2] ∧ Blk W (w.heap.size + 1) 25 #[.int .i64 0, .int .i64 0, .int .i64 0, .int .i64 0, .int .i64 0, .int .i64 0] ∧ Blk W (w.heap.size + 1 + 1) 29 #[.int .i64 0, .int .i64 0, .int .i64 0, .int .i64 0, .int .i64 0, .int .i64 0, .int .i64 0, .int .i64 0])
    ⟨(((Below.refl _ _).alloc (Nat.le_refl _) _).alloc (by simp) _).alloc (by simp; omega) _, ((Blk.new _ _ _).alloc _).alloc _, (blk_at (by simp)).alloc _, blk_at (by simp)⟩ ?_
  rintro W0 ⟨hB0, b0, b1, b2⟩
  refine (hv.out _).mono ?_
  rintro e W1 ⟨r, rfl, hr, hb⟩
  replace b0 := b0.below hb b0.lt
  replace b1 := b1.below hb b1.lt
  replace b2 := b2.below hb b2.lt
  have hB := hB0.trans (hb.mono hB0.size)
  clear hb hB0 hv
  have n2 := b2.lt
  cases r with
  | false =>
    replace hfin := Lib.hid (hfin.out (Gr.zero, 0, 1) (by rw [hdef.out, if_neg (fun h => Bool.noConfusion (hr.2 h))]))
    clear hr hdef hp
    obtain ⟨z0, z1, z2, z3, z4, z5⟩ := b1.facts6
    obtain ⟨y0, y1, y2, y3, y4, y5, y6, y7⟩ := b2.facts8
    obtain ⟨u0, u1, u2, u3, u4, u5⟩ := b1.frozen6
    obtain ⟨v0, v1, v2, v3, v4, v5, v6, v7⟩ := b2.frozen8
    go_wp2_with fail
    refine ret_world (fun W => Below w.heap.size w W ∧ Blk W (w.heap.size + 1) 25 #[.int .i64 0, .int .i64 0, .int .i64 0, .int .i64 0, .int .i64 0, .int .i64 0] ∧ Blk W (w.heap.size + 1 + 1) 29 #[.int .i64 0, .int .i64 0, .int .i64 0, .int .i64 0, .int .i64 0, .int .i64 0, .int .i64 0, .int .i64 0])
      ⟨below8 (below6 hB (by omega)) (by omega), Blk.farsets8 (Blk.sets6 b1) (by omega), Blk.sets8 (Blk.farsets6 b2 (by omega))⟩ ?_
    clear hB b1 b2 z0  z1  z2  z3  z4  z5 y0  y1  y2  y3  y4  y5  y6  y7 u0  u1  u2  u3  u4  u5 v0  v1  v2  v3  v4  v5  v6  v7 b0
    rintro W ⟨hB, b1, b2⟩
    obtain ⟨z0, z1, z2, z3, z4, z5⟩ := b1.facts6
    obtain ⟨y0, y1, y2, y3, y4, y5, y6, y7⟩ := b2.facts8
    exact bodyPost_ret (v := .tuple #[.agg #[.int .i64 0, .int .i64 0, .int .i64 0, .int .i64 0, .int .i64 0, .int .i64 0], .agg #[.int .i64 0, .int .i64 0, .int .i64 0, .int .i64 0, .int .i64 0, .int .i64 0, .int .i64 0, .int .i64 0], .int .i64 0, .int .i64 1]) (by simp [results, Try.results13, go_sem, z0, z1, z2, z3, z4, z5, y0, y1, y2, y3, y4, y5, y6, y7]) rfl (hfin.out _ hB)
  | true =>
    have hok := hr.1 rfl
    replace hdef := Lib.hid (hdef.out.trans (if_pos hok))
    clear hr
    by_cases hl : 256 < l.length
    · have hl' : (256 : Int) < l.length := by omega
      replace hfin := Lib.hid (hfin.out (Gr.zero, 0, 3) (by rw [hdef.out, if_pos hl]))
      clear hdef hp hok
      obtain ⟨z0, z1, z2, z3, z4, z5⟩ := b1.facts6
      obtain ⟨y0, y1, y2, y3, y4, y5, y6, y7⟩ := b2.facts8
      obtain ⟨u0, u1, u2, u3, u4, u5⟩ := b1.frozen6
      obtain ⟨v0, v1, v2, v3, v4, v5, v6, v7⟩ := b2.frozen8
      go_wp2_with fail
      refine ret_world (fun W => Below w.heap.size w W ∧ Blk W (w.heap.size + 1) 25 #[.int .i64 0, .int .i64 0, .int .i64 0, .int .i64 0, .int .i64 0, .int .i64 0] ∧ Blk W (w.heap.size + 1 + 1) 29 #[.int .i64 0, .int .i64 0, .int .i64 0, .int .i64 0, .int .i64 0, .int .i64 0, .int .i64 0, .int .i64 0])
        ⟨below8 (below6 hB (by omega)) (by omega), Blk.farsets8 (Blk.sets6 b1) (by omega), Blk.sets8 (Blk.farsets6 b2 (by omega))⟩ ?_
      clear hB b1 b2 z0  z1  z2  z3  z4  z5 y0  y1  y2  y3  y4  y5  y6  y7 u0  u1  u2  u3  u4  u5 v0  v1  v2  v3  v4  v5  v6  v7 b0
      rintro W ⟨hB, b1, b2⟩
      obtain ⟨z0, z1, z2, z3, z4, z5⟩ := b1.facts6
      obtain ⟨y0, y1, y2, y3, y4, y5, y6, y7⟩ := b2.facts8
      exact bodyPost_ret (v := .tuple #[.agg #[.int .i64 0, .int .i64 0, .int .i64 0, .int .i64 0, .int .i64 0, .int .i64 0], .agg #[.int .i64 0, .int .i64 0, .int .i64 0, .int .i64 0, .int .i64 0, .int .i64 0, .int .i64 0, .int .i64 0], .int .i64 0, .int .i64 3]) (by simp [results, Try.results13, go_sem, z0, z1, z2, z3, z4, z5, y0, y1, y2, y3, y4, y5, y6, y7]) rfl (hfin.out _ hB)
    · have hl' : ¬ (256 : Int) < l.length := by omega
      replace hdef := Lib.hid (hdef.out.trans (if_neg hl))
      have hg0 : Gr.Ok ⟨d1, d2, w1, w2, p1, p2, 0, 0, 0, 0, 0, 0, 0, 0⟩ := ⟨hok.1, hok.2.1, hok.2.2, sp0, sp0, sp0, sp0⟩
      replace hg0 := Lib.hid hg0
      clear hok
      go_upto_region 6 with fail
      refine wp_world (fun W => Below w.heap.size w W ∧ Blk W w.heap.size 25 #[.int .i64 d1, .int .i64 d2, .int .i64 w1, .int .i64 w2, .int .i64 p1, .int .i64 p2] ∧ Blk W (w.heap.size + 1) 25 #[.int .i64 0, .int .i64 0, .int .i64 0, .int .i64 0, .int .i64 0, .int .i64 0] ∧ Blk W (w.heap.size + 1 + 1) 29 #[.int .i64 0, .int .i64 0, .int .i64 0, .int .i64 0, .int .i64 0, .int .i64 0, .int .i64 0, .int .i64 0] ∧ Blk W W1.heap.size 29 #[.int .i64 0, .int .i64 0, .int .i64 0, .int .i64 0, .int .i64 0, .int .i64 0, .int .i64 0, .int .i64 0]) ⟨hB.alloc hB.size _, b0.alloc _, b1.alloc _, b2.alloc _, Blk.new _ _ _⟩ ?_
      clear hB b0 b1 b2
      generalize W1.heap.size = g8 at *
      rintro W2 ⟨hB, b0, b1, b2, b8⟩
      go_wp2_with fail
      go_loopw [9] (fun i wr => ∃ (k : Nat) (g : Gr), k ≤ l.length ∧ i = .int .i64 k ∧ Below w.heap.size w wr ∧ Blk wr w.heap.size 25 g.malt ∧ Blk wr (w.heap.size + 1) 25 #[.int .i64 0, .int .i64 0, .int .i64 0, .int .i64 0, .int .i64 0, .int .i64 0] ∧ Blk wr (w.heap.size + 1 + 1) 29 #[.int .i64 0, .int .i64 0, .int .i64 0, .int .i64 0, .int .i64 0, .int .i64 0, .int .i64 0, .int .i64 0] ∧ Blk wr g8 29 g.loss ∧ Hid g.Ok ∧ Hid (rr = playG g (l.drop k) k)) (fun i _ => l.length - (intOf i).toNat)
      case atStart => exact ⟨0, ⟨d1, d2, w1, w2, p1, p2, 0, 0, 0, 0, 0, 0, 0, 0⟩, Nat.zero_le _, rfl, hB, b0, b1, b2, b8, hg0, hdef⟩
      case round =>
        clear hB b0 b1 b2 b8 hg0 hdef
        obtain ⟨k, g, hk, rfl, hB, b0, b1, b2, b8, hg, hdef⟩ := hrel
        by_cases hlt : k < l.length
        · obtain ⟨b, off, hA, hbl, hcells⟩ := hp.out (by omega)
          obtain ⟨s, hs⟩ : ∃ s, l[k]? = some s := ⟨_, List.getElem?_eq_getElem hlt⟩
          obtain ⟨k1, k2, k3⟩ := hcells k s hs
          have hkk1 := k1
          have hkk2 := k2
          have hkk3 := k3
          have k1' := cell_later hB k1
          have k2' := cell_later hB k2
          have k3' := cell_later hB k3
          have hdr : l.drop k = s :: l.drop (k + 1) := by
            rw [List.drop_eq_getElem_cons hlt]
            congr 1
            exact Option.some.inj ((List.getElem?_eq_getElem hlt).symm.trans hs)
          have hsp := Lib.hid fun W => refStep_any s.k s.a s.b W
          have hbe := Lib.hid fun (h : StepOk s.k s.a s.b) W => behind_any g.d1 g.d2 g.w1 g.w2 g.p1 g.p2 s.k s.a s.b W hg.out.d hg.out.w hg.out.p h
          have hpc := play_cons g s (l.drop (k + 1)) k hg.out _ rfl
          have hd2 := hdef.out
          rw [hdr] at hd2
          rw [← hd2] at hpc
          replace hpc := Lib.hid hpc
          obtain ⟨kk, xx, yy⟩ := s
          dsimp only at hkk1 hkk2 hkk3 k1' k2' k3' hsp hbe hpc
          generalize behG g.d1 g.d2 g.w1 g.w2 g.p1 g.p2 kk xx yy = h at *
          clear k1 k2 k3 hcells hdef hdr hp hg hs hd2
          obtain ⟨d1, d2, w1, w2, p1, p2, t1, t2, g1, g2, r1, r2, s1, s2⟩ := g
          subst hA
          simp only [Gr.malt, Gr.loss] at b0 b8 hbe
          have n8 := b8.lt
          go_wp2_with fail
          refine (hsp.out _).mono ?_
          rintro e W3 ⟨r, rfl, hr, hb⟩
          replace b0 := b0.below hb b0.lt
          replace b1 := b1.below hb b1.lt
          replace b2 := b2.below hb b2.lt
          replace b8 := b8.below hb b8.lt
          replace hB := hB.trans (hb.mono hB.size)
          clear hb hsp k1' k2' k3'
          cases r with
          | false =>
            replace hfin := Lib.hid (hfin.out (Gr.zero, k, 1) (hpc.out.1 (fun h => Bool.noConfusion (hr.2 h))))
            clear hr hpc hbe
            obtain ⟨z0, z1, z2, z3, z4, z5⟩ := b1.facts6
            obtain ⟨y0, y1, y2, y3, y4, y5, y6, y7⟩ := b2.facts8
            obtain ⟨u0, u1, u2, u3, u4, u5⟩ := b1.frozen6
            obtain ⟨v0, v1, v2, v3, v4, v5, v6, v7⟩ := b2.frozen8
            go_wp2_with fail
            refine ret_world (fun W => Below w.heap.size w W ∧ Blk W (w.heap.size + 1) 25 #[.int .i64 0, .int .i64 0, .int .i64 0, .int .i64 0, .int .i64 0, .int .i64 0] ∧ Blk W (w.heap.size + 1 + 1) 29 #[.int .i64 0, .int .i64 0, .int .i64 0, .int .i64 0, .int .i64 0, .int .i64 0, .int .i64 0, .int .i64 0])
              ⟨below8 (below6 hB (by omega)) (by omega), Blk.farsets8 (Blk.sets6 b1) (by omega), Blk.sets8 (Blk.farsets6 b2 (by omega))⟩ ?_
            clear hB b1 b2 z0  z1  z2  z3  z4  z5 y0  y1  y2  y3  y4  y5  y6  y7 u0  u1  u2  u3  u4  u5 v0  v1  v2  v3  v4  v5  v6  v7 b0 b8
            rintro W ⟨hB, b1, b2⟩
            obtain ⟨z0, z1, z2, z3, z4, z5⟩ := b1.facts6
            obtain ⟨y0, y1, y2, y3, y4, y5, y6, y7⟩ := b2.facts8
            exact bodyPost_ret (v := .tuple #[.agg #[.int .i64 0, .int .i64 0, .int .i64 0, .int .i64 0, .int .i64 0, .int .i64 0], .agg #[.int .i64 0, .int .i64 0, .int .i64 0, .int .i64 0, .int .i64 0, .int .i64 0, .int .i64 0, .int .i64 0], .int .i64 k, .int .i64 1]) (by simp [results, Try.results13, go_sem, z0, z1, z2, z3, z4, z5, y0, y1, y2, y3, y4, y5, y6, y7]) rfl (hfin.out _ hB)
          | true =>
            have hst := hr.1 rfl
            replace hbe := Lib.hid (hbe.out hst)
            have hp2 := Lib.hid (hpc.out.2.1 hst)
            have hp3 := Lib.hid (hpc.out.2.2 hst)
            clear hr hst hpc
            have k1' := cell_later hB hkk1
            have k2' := cell_later hB hkk2
            have k3' := cell_later hB hkk3
            have k1'' := fun d os => cell_regrown k1' d os
            have k2'' := fun d os => cell_regrown k2' d os
            have k3'' := fun d os => cell_regrown k3' d os
            obtain ⟨x0, x1, x2, x3, x4, x5⟩ := b0.facts6
            have x0' := fun d os => cell_regrown x0 d os
            have x1' := fun d os => cell_regrown x1 d os
            have x2' := fun d os => cell_regrown x2 d os
            have x3' := fun d os => cell_regrown x3 d os
            have x4' := fun d os => cell_regrown x4 d os
            have x5' := fun d os => cell_regrown x5 d os
            obtain ⟨qd1, qd2, qw1, qw2, qp1, qp2, qt1, qt2, qg1, qg2, qr1, qr2, qs1, qs2⟩ := h
            dsimp only at hbe
            go_upto_region 11 with fail
            refine wp_region_two_late 9 8 10 11 25 29 #[.int .i64 0, .int .i64 0, .int .i64 0, .int .i64 0, .int .i64 0, .int .i64 0] #[.int .i64 0, .int .i64 0, .int .i64 0, .int .i64 0, .int .i64 0, .int .i64 0, .int .i64 0, .int .i64 0] (by kernel_rfl) (by kernel_rfl) (by kernel_rfl)
              ⟨_, rfl, rfl, rfl, fun a w => by kernel_rfl⟩ ⟨_, rfl, rfl, rfl, fun a w => by kernel_rfl⟩ (by decide) (by kernel_rfl) (by kernel_rfl) ?_
            simp only [List.take_succ_cons, List.take_zero, List.drop_succ_cons, List.drop_zero]
            repeat ((refine wpCalm_step (fun K hK => ?_)); go_simp; first | (refine hK _ ?_; clear hK K) | fail)
            (refine wpCalm_step (fun K hK => ?_)); go_simp; (apply Exists.intro; refine ⟨fun _ => ?_, hK _ ?_⟩; (first | (go_at_call 38; exact calm_call (fun W1 _ => hbe.out W1))); clear hK K)
            repeat ((refine wpCalm_step (fun K hK => ?_)); go_simp; first | (refine hK _ ?_; clear hK K) | fail)
            refine wpCalm_nil ?_
            intro W4 g10 g11 hb hV10 hV11 hg10 hg11 hne
            simp only [Act.put, List.setIfInBounds_toArray, List.set_cons_zero, List.set_cons_succ]
            have n0 := b0.lt
            have n1 := b1.lt
            have n2' := b2.lt
            have n8' := b8.lt
            replace b0 := b0.below hb b0.lt
            replace b1 := b1.below hb b1.lt
            replace b2 := b2.below hb b2.lt
            replace b8 := b8.below hb b8.lt
            replace hB := hB.trans (hb.mono hB.size)
            clear hb hbe k1' k2' k3' k1'' k2'' k3'' x0 x1 x2 x3 x4 x5 x0' x1' x2' x3' x4' x5'
            obtain ⟨c0, c1, c2, c3, c4, c5⟩ := hV10.facts6
            obtain ⟨f0, f1, f2, f3, f4, f5⟩ := hV10.frozen6
            obtain ⟨e0, e1, e2, e3, e4, e5, e6, e7⟩ := hV11.facts8
            obtain ⟨a0, a1, a2, a3, a4, a5, a6, a7⟩ := hV11.frozen8
            have m0 : w.heap.size < g10 ∧ w.heap.size + 1 < g10 ∧ w.heap.size + 1 + 1 < g10 ∧ g8 < g10 ∧ w.heap.size < g11 ∧ w.heap.size + 1 < g11 ∧ w.heap.size + 1 + 1 < g11 ∧ g8 < g11 := by omega
            obtain ⟨m1, m2, m3, m4, m5, m6, m7, m8⟩ := m0
            go_upto_region 12 with fail
            refine wp_world (fun W => Below w.heap.size w W ∧ Blk W w.heap.size 25 #[.int .i64 d1, .int .i64 d2, .int .i64 w1, .int .i64 w2, .int .i64 p1, .int .i64 p2] ∧ Blk W (w.heap.size + 1) 25 #[.int .i64 0, .int .i64 0, .int .i64 0, .int .i64 0, .int .i64 0, .int .i64 0] ∧ Blk W (w.heap.size + 1 + 1) 29 #[.int .i64 0, .int .i64 0, .int .i64 0, .int .i64 0, .int .i64 0, .int .i64 0, .int .i64 0, .int .i64 0] ∧ Blk W g8 29 #[.int .i64 t1, .int .i64 t2, .int .i64 g1, .int .i64 g2, .int .i64 r1, .int .i64 r2, .int .i64 s1, .int .i64 s2] ∧ Blk W g10 25 #[.int .i64 qd1, .int .i64 qd2, .int .i64 qw1, .int .i64 qw2, .int .i64 qp1, .int .i64 qp2] ∧ Blk W g11 29 #[.int .i64 qt1, .int .i64 qt2, .int .i64 qg1, .int .i64 qg2, .int .i64 qr1, .int .i64 qr2, .int .i64 qs1, .int .i64 qs2])
              ⟨below8 (below6 hB (by omega)) (by omega), Blk.farsets8 (Blk.farsets6 b0 (by omega)) (by omega), Blk.farsets8 (Blk.farsets6 b1 (by omega)) (by omega), Blk.farsets8 (Blk.farsets6 b2 (by omega)) (by omega), Blk.farsets8 (Blk.farsets6 b8 (by omega)) (by omega), Blk.farsets8 (Blk.sets6 hV10) hne, Blk.sets8 (Blk.farsets6 hV11 hne.symm)⟩ ?_
            clear hB b0 b1 b2 b8 hV10 hV11 c0 c1 c2 c3 c4 c5 f0 f1 f2 f3 f4 f5 e0 e1 e2 e3 e4 e5 e6 e7 a0 a1 a2 a3 a4 a5 a6 a7
            rintro W5 ⟨hB, b0, b1, b2, b8, b10, b11⟩
            obtain ⟨c0, c1, c2, c3, c4, c5⟩ := b10.facts6
            obtain ⟨e0, e1, e2, e3, e4, e5, e6, e7⟩ := b11.facts8
            by_cases hbad : badG ⟨qd1, qd2, qw1, qw2, qp1, qp2, qt1, qt2, qg1, qg2, qr1, qr2, qs1, qs2⟩
            · replace hfin := Lib.hid (hfin.out (Gr.zero, k, 4) (hp2.out hbad))
              have hal : (decide (qd2 < qd1) = true) ∨ (decide (qd2 < qd1) = false ∧ decide (qw2 < qw1) = true) ∨ (decide (qd2 < qd1) = false ∧ decide (qw2 < qw1) = false ∧ decide (qp2 < qp1) = true) ∨ (decide (qd2 < qd1) = false ∧ decide (qw2 < qw1) = false ∧ decide (qp2 < qp1) = false ∧ decide (qt2 < qt1) = true) ∨ (decide (qd2 < qd1) = false ∧ decide (qw2 < qw1) = false ∧ decide (qp2 < qp1) = false ∧ decide (qt2 < qt1) = false ∧ decide (qg2 < qg1) = true) ∨ (decide (qd2 < qd1) = false ∧ decide (qw2 < qw1) = false ∧ decide (qp2 < qp1) = false ∧ decide (qt2 < qt1) = false ∧ decide (qg2 < qg1) = false ∧ decide (qr2 < qr1) = true) ∨ (decide (qd2 < qd1) = false ∧ decide (qw2 < qw1) = false ∧ decide (qp2 < qp1) = false ∧ decide (qt2 < qt1) = false ∧ decide (qg2 < qg1) = false ∧ decide (qr2 < qr1) = false ∧ decide (qs2 < qs1) = true) := by
                unfold badG at hbad
                dsimp only at hbad
                simp only [decide_eq_true_eq, decide_eq_false_iff_not]
                omega
              clear hp2 hp3 hbad
              rcases hal with j0 | ⟨j0, j1⟩ | ⟨j0, j1, j2⟩ | ⟨j0, j1, j2, j3⟩ | ⟨j0, j1, j2, j3, j4⟩ | ⟨j0, j1, j2, j3, j4, j5⟩ | ⟨j0, j1, j2, j3, j4, j5, j6⟩
              all_goals
                obtain ⟨z0, z1, z2, z3, z4, z5⟩ := b1.facts6
                obtain ⟨y0, y1, y2, y3, y4, y5, y6, y7⟩ := b2.facts8
                obtain ⟨u0, u1, u2, u3, u4, u5⟩ := b1.frozen6
                obtain ⟨v0, v1, v2, v3, v4, v5, v6, v7⟩ := b2.frozen8
                go_wp2_with fail
                refine ret_world (fun W => Below w.heap.size w W ∧ Blk W (w.heap.size + 1) 25 #[.int .i64 0, .int .i64 0, .int .i64 0, .int .i64 0, .int .i64 0, .int .i64 0] ∧ Blk W (w.heap.size + 1 + 1) 29 #[.int .i64 0, .int .i64 0, .int .i64 0, .int .i64 0, .int .i64 0, .int .i64 0, .int .i64 0, .int .i64 0])
                  ⟨below8 (below6 hB (by omega)) (by omega), Blk.farsets8 (Blk.sets6 b1) (by omega), Blk.sets8 (Blk.farsets6 b2 (by omega))⟩ ?_
                clear hB b1 b2 z0  z1  z2  z3  z4  z5 y0  y1  y2  y3  y4  y5  y6  y7 u0  u1  u2  u3  u4  u5 v0  v1  v2  v3  v4  v5  v6  v7 b0 b8 b10 b11
                rintro W ⟨hB, b1, b2⟩
                obtain ⟨z0, z1, z2, z3, z4, z5⟩ := b1.facts6
                obtain ⟨y0, y1, y2, y3, y4, y5, y6, y7⟩ := b2.facts8
                exact bodyPost_ret (v := .tuple #[.agg #[.int .i64 0, .int .i64 0, .int .i64 0, .int .i64 0, .int .i64 0, .int .i64 0], .agg #[.int .i64 0, .int .i64 0, .int .i64 0, .int .i64 0, .int .i64 0, .int .i64 0, .int .i64 0, .int .i64 0], .int .i64 k, .int .i64 4]) (by simp [results, Try.results13, go_sem, z0, z1, z2, z3, z4, z5, y0, y1, y2, y3, y4, y5, y6, y7]) rfl (hfin.out _ hB)
            · have hall : decide (qd2 < qd1) = false ∧ decide (qw2 < qw1) = false ∧ decide (qp2 < qp1) = false ∧ decide (qt2 < qt1) = false ∧ decide (qg2 < qg1) = false ∧ decide (qr2 < qr1) = false ∧ decide (qs2 < qs1) = false := by
                unfold badG at hbad
                dsimp only at hbad
                simp only [decide_eq_false_iff_not]
                omega
              obtain ⟨j0, j1, j2, j3, j4, j5, j6⟩ := hall
              replace hp3 := hp3.out hbad
              obtain ⟨hwide, h12, h0⟩ := hp3
              clear hp2 hbad
              obtain ⟨⟨ad0, ad1, ad2⟩, ⟨aw0, aw1, aw2⟩, ⟨ap0, ap1, ap2⟩, ⟨at0, at1, at2⟩, ⟨ag0, ag1, ag2⟩, ⟨ar0, ar1, ar2⟩, ⟨as0, as1, as2⟩⟩ := hwide
              simp only [addG] at ad0 ad1 ad2 aw0 aw1 aw2 ap0 ap1 ap2 at0 at1 at2 ag0 ag1 ag2 ar0 ar1 ar2 as0 as1 as2
              have s1' := Lib.hid fun W => refplus_any t1 t2 qt1 qt2 W ⟨at0, by omega⟩ ⟨by omega, at2⟩
              have s2' := Lib.hid fun W => refplus_any g1 g2 qg1 qg2 W ⟨ag0, by omega⟩ ⟨by omega, ag2⟩
              have s3' := Lib.hid fun W => refplus_any r1 r2 qr1 qr2 W ⟨ar0, by omega⟩ ⟨by omega, ar2⟩
              have s4' := Lib.hid fun W => refplus_any s1 s2 qs1 qs2 W ⟨as0, by omega⟩ ⟨by omega, as2⟩
              replace h12 := Lib.hid h12
              replace h0 := Lib.hid h0
              obtain ⟨x0, x1, x2, x3, x4, x5, x6, x7⟩ := b8.facts8
              have x0' := fun d os => cell_regrown x0 d os
              have e0' := fun d os => cell_regrown e0 d os
              have x1' := fun d os => cell_regrown x1 d os
              have e1' := fun d os => cell_regrown e1 d os
              have x2' := fun d os => cell_regrown x2 d os
              have e2' := fun d os => cell_regrown e2 d os
              have x3' := fun d os => cell_regrown x3 d os
              have e3' := fun d os => cell_regrown e3 d os
              have x4' := fun d os => cell_regrown x4 d os
              have e4' := fun d os => cell_regrown e4 d os
              have x5' := fun d os => cell_regrown x5 d os
              have e5' := fun d os => cell_regrown e5 d os
              have x6' := fun d os => cell_regrown x6 d os
              have e6' := fun d os => cell_regrown e6 d os
              have x7' := fun d os => cell_regrown x7 d os
              have e7' := fun d os => cell_regrown e7 d os
              go_upto_region 14 with fail
              refine wp_region_below_tail 21 (by kernel_rfl) (by kernel_rfl) ?_
              simp only [List.take_succ_cons, List.take_zero, List.drop_succ_cons, List.drop_zero]
              repeat (quiet_step (fail))
              quiet_step (first | (go_at_call 39; exact quiet_call (fun W1 _ => s1'.out W1)))
              repeat (quiet_step (fail))
              quiet_step (first | (go_at_call 39; exact quiet_call (fun W1 _ => s2'.out W1)))
              repeat (quiet_step (fail))
              quiet_step (first | (go_at_call 39; exact quiet_call (fun W1 _ => s3'.out W1)))
              repeat (quiet_step (fail))
              quiet_step (first | (go_at_call 39; exact quiet_call (fun W1 _ => s4'.out W1)))
              repeat (quiet_step (fail))
              refine wpQuiet_nil ?_
              intro _ hw'
              obtain ⟨⟨dq, osq⟩, hw''⟩ := hw'
              subst hw''
              have hb := below_regrown W5 dq osq
              replace b0 := b0.below hb b0.lt
              replace b1 := b1.below hb b1.lt
              replace b2 := b2.below hb b2.lt
              replace b8 := b8.below hb b8.lt
              replace b10 := b10.below hb b10.lt
              replace hB := hB.trans (hb.mono hB.size)
              clear hb c0 c1 c2 c3 c4 c5 e0 e1 e2 e3 e4 e5 e6 e7 x0 x1 x2 x3 x4 x5 x6 x7 x0' x1' x2' x3' x4' x5' x6' x7' e0' e1' e2' e3' e4' e5' e6' e7' b11 s1' s2' s3' s4'
              generalize grow (redrawn W5 dq) osq = W6 at *
              obtain ⟨x0, x1, x2, x3, x4, x5, x6, x7⟩ := b8.facts8
              obtain ⟨a0, a1, a2, a3, a4, a5, a6, a7⟩ := b8.frozen8
              go_upto_region 15 with fail
              refine wp_world (fun W => Below w.heap.size w W ∧ Blk W w.heap.size 25 #[.int .i64 d1, .int .i64 d2, .int .i64 w1, .int .i64 w2, .int .i64 p1, .int .i64 p2] ∧ Blk W (w.heap.size + 1) 25 #[.int .i64 0, .int .i64 0, .int .i64 0, .int .i64 0, .int .i64 0, .int .i64 0] ∧ Blk W (w.heap.size + 1 + 1) 29 #[.int .i64 0, .int .i64 0, .int .i64 0, .int .i64 0, .int .i64 0, .int .i64 0, .int .i64 0, .int .i64 0] ∧ Blk W g8 29 #[.int .i64 (t1 + qt1), .int .i64 (t2 + qt2), .int .i64 (g1 + qg1), .int .i64 (g2 + qg2), .int .i64 (r1 + qr1), .int .i64 (r2 + qr2), .int .i64 (s1 + qs1), .int .i64 (s2 + qs2)] ∧ Blk W g10 25 #[.int .i64 qd1, .int .i64 qd2, .int .i64 qw1, .int .i64 qw2, .int .i64 qp1, .int .i64 qp2])
                ⟨below8 hB (by omega), Blk.farsets8 b0 (by omega), Blk.farsets8 b1 (by omega), Blk.farsets8 b2 (by omega), Blk.sets8 b8, Blk.farsets8 b10 (by omega)⟩ ?_
              clear hB b0 b1 b2 b8 b10 x0 x1 x2 x3 x4 x5 x6 x7 a0 a1 a2 a3 a4 a5 a6 a7
              rintro W7 ⟨hB, b0, b1, b2, b8, b10⟩
              obtain ⟨c0, c1, c2, c3, c4, c5⟩ := b10.facts6
              obtain ⟨x0, x1, x2, x3, x4, x5, x6, x7⟩ := b8.facts8
              have hmax := fun (W : World) => run_max7 (P := Try.prog) (w := W) #[3, 3, 3, 3, 3, 3, 3] 3 qd2 qw2 qp2 (t2 + qt2) (g2 + qg2) (r2 + qr2) (s2 + qs2)
              have hmx : (1099511627776 < mx2 (mx2 (mx2 (mx2 (mx2 (mx2 qd2 qw2) qp2) (t2 + qt2)) (g2 + qg2)) (r2 + qr2)) (s2 + qs2)) ↔ tooG (addG ⟨d1, d2, w1, w2, p1, p2, t1, t2, g1, g2, r1, r2, s1, s2⟩ ⟨qd1, qd2, qw1, qw2, qp1, qp2, qt1, qt2, qg1, qg2, qr1, qr2, qs1, qs2⟩) = true := by
                simp only [mx2_lt]
                exact (tooG_iff (addG ⟨d1, d2, w1, w2, p1, p2, t1, t2, g1, g2, r1, r2, s1, s2⟩ ⟨qd1, qd2, qw1, qw2, qp1, qp2, qt1, qt2, qg1, qg2, qr1, qr2, qs1, qs2⟩)).symm
              generalize mx2 (mx2 (mx2 (mx2 (mx2 (mx2 qd2 qw2) qp2) (t2 + qt2)) (g2 + qg2)) (r2 + qr2)) (s2 + qs2) = mx at *
              by_cases ht : 1099511627776 < mx
              · have hm1 : decide (1099511627776 < mx) = true := by simpa using ht
                replace hfin := Lib.hid (hfin.out (Gr.zero, k, 12) (h12.out (hmx.1 ht)))
                clear h12 h0 hmx ht
                obtain ⟨z0, z1, z2, z3, z4, z5⟩ := b1.facts6
                obtain ⟨y0, y1, y2, y3, y4, y5, y6, y7⟩ := b2.facts8
                obtain ⟨u0, u1, u2, u3, u4, u5⟩ := b1.frozen6
                obtain ⟨v0, v1, v2, v3, v4, v5, v6, v7⟩ := b2.frozen8
                go_wp2_with fail
                refine ret_world (fun W => Below w.heap.size w W ∧ Blk W (w.heap.size + 1) 25 #[.int .i64 0, .int .i64 0, .int .i64 0, .int .i64 0, .int .i64 0, .int .i64 0] ∧ Blk W (w.heap.size + 1 + 1) 29 #[.int .i64 0, .int .i64 0, .int .i64 0, .int .i64 0, .int .i64 0, .int .i64 0, .int .i64 0, .int .i64 0])
                  ⟨below8 (below6 hB (by omega)) (by omega), Blk.farsets8 (Blk.sets6 b1) (by omega), Blk.sets8 (Blk.farsets6 b2 (by omega))⟩ ?_
                clear hB b1 b2 z0  z1  z2  z3  z4  z5 y0  y1  y2  y3  y4  y5  y6  y7 u0  u1  u2  u3  u4  u5 v0  v1  v2  v3  v4  v5  v6  v7 b0 b8 b10 c0 c1 c2 c3 c4 c5 x0 x1 x2 x3 x4 x5 x6 x7
                rintro W ⟨hB, b1, b2⟩
                obtain ⟨z0, z1, z2, z3, z4, z5⟩ := b1.facts6
                obtain ⟨y0, y1, y2, y3, y4, y5, y6, y7⟩ := b2.facts8
                exact bodyPost_ret (v := .tuple #[.agg #[.int .i64 0, .int .i64 0, .int .i64 0, .int .i64 0, .int .i64 0, .int .i64 0], .agg #[.int .i64 0, .int .i64 0, .int .i64 0, .int .i64 0, .int .i64 0, .int .i64 0, .int .i64 0, .int .i64 0], .int .i64 k, .int .i64 12]) (by simp [results, Try.results13, go_sem, z0, z1, z2, z3, z4, z5, y0, y1, y2, y3, y4, y5, y6, y7]) rfl (hfin.out _ hB)
              · have hm1 : decide (1099511627776 < mx) = false := by simpa using ht
                have hf : tooG (addG ⟨d1, d2, w1, w2, p1, p2, t1, t2, g1, g2, r1, r2, s1, s2⟩ ⟨qd1, qd2, qw1, qw2, qp1, qp2, qt1, qt2, qg1, qg2, qr1, qr2, qs1, qs2⟩) = false := by
                  cases hh : tooG (addG ⟨d1, d2, w1, w2, p1, p2, t1, t2, g1, g2, r1, r2, s1, s2⟩ ⟨qd1, qd2, qw1, qw2, qp1, qp2, qt1, qt2, qg1, qg2, qr1, qr2, qs1, qs2⟩) with
                  | false => rfl
                  | true => exact absurd (hmx.2 hh) ht
                obtain ⟨h1', h2'⟩ := h0.out hf
                replace h1' := Lib.hid h1'
                replace h2' := Lib.hid h2'
                clear h12 h0 hmx ht hf
                obtain ⟨z0, z1, z2, z3, z4, z5⟩ := b0.facts6
                obtain ⟨u0, u1, u2, u3, u4, u5⟩ := b0.frozen6
                go_wp2_with fail
                go_roundw
                case rel => exact ⟨k + 1, addG ⟨d1, d2, w1, w2, p1, p2, t1, t2, g1, g2, r1, r2, s1, s2⟩ ⟨qd1, qd2, qw1, qw2, qp1, qp2, qt1, qt2, qg1, qg2, qr1, qr2, qs1, qs2⟩, by omega, by go_num, below6 hB (Nat.le_refl _), Blk.sets6 b0, Blk.farsets6 b1 (by omega), Blk.farsets6 b2 (by omega), Blk.farsets6 b8 (by omega), h2', h1'⟩
                case measure => simp [intOf]; omega
        · have hk' : k = l.length := by omega
          subst hk'
          have hd2 := hdef.out
          rw [List.drop_length, playG] at hd2
          replace hfin := Lib.hid (hfin.out _ hd2)
          clear hdef hd2 hp hg
          obtain ⟨d1, d2, w1, w2, p1, p2, t1, t2, g1, g2, r1, r2, s1, s2⟩ := g
          have n8 := b8.lt
          simp only [Gr.malt, Gr.loss] at b0 b8
          obtain ⟨c0, c1, c2, c3, c4, c5⟩ := b0.facts6
          obtain ⟨x0, x1, x2, x3, x4, x5, x6, x7⟩ := b8.facts8
          obtain ⟨z0, z1, z2, z3, z4, z5⟩ := b1.facts6
          obtain ⟨y0, y1, y2, y3, y4, y5, y6, y7⟩ := b2.facts8
          obtain ⟨u0, u1, u2, u3, u4, u5⟩ := b1.frozen6
          obtain ⟨v0, v1, v2, v3, v4, v5, v6, v7⟩ := b2.frozen8
          go_upto_region 19 with fail
          go_region
          go_wp2
          refine ret_world (fun W => Below w.heap.size w W ∧ Blk W (w.heap.size + 1) 25 #[.int .i64 d1, .int .i64 d2, .int .i64 w1, .int .i64 w2, .int .i64 p1, .int .i64 p2] ∧ Blk W (w.heap.size + 1 + 1) 29 #[.int .i64 t1, .int .i64 t2, .int .i64 g1, .int .i64 g2, .int .i64 r1, .int .i64 r2, .int .i64 s1, .int .i64 s2])
            ⟨(below8 (below6 hB (by omega)) (by omega)).drew, (Blk.farsets8 (Blk.sets6 b1) (by omega)).drew, (Blk.sets8 (Blk.farsets6 b2 (by omega))).drew⟩ ?_
          clear hB b0 b1 b2 b8 c0 c1 c2 c3 c4 c5 x0 x1 x2 x3 x4 x5 x6 x7 z0  z1  z2  z3  z4  z5 y0  y1  y2  y3  y4  y5  y6  y7 u0  u1  u2  u3  u4  u5 v0  v1  v2  v3  v4  v5  v6  v7
          rintro W ⟨hB, b1, b2⟩
          obtain ⟨z0, z1, z2, z3, z4, z5⟩ := b1.facts6
          obtain ⟨y0, y1, y2, y3, y4, y5, y6, y7⟩ := b2.facts8
          exact bodyPost_ret (v := .tuple #[.agg #[.int .i64 d1, .int .i64 d2, .int .i64 w1, .int .i64 w2, .int .i64 p1, .int .i64 p2], .agg #[.int .i64 t1, .int .i64 t2, .int .i64 g1, .int .i64 g2, .int .i64 r1, .int .i64 r2, .int .i64 s1, .int .i64 s2], .int .i64 l.length, .int .i64 0]) (by simp [results, Try.results13, go_sem, z0, z1, z2, z3, z4, z5, y0, y1, y2, y3, y4, y5, y6, y7]) rfl (hfin.out _ hB)
end Go.Proofs.Ytdadpfgcjffclaa
