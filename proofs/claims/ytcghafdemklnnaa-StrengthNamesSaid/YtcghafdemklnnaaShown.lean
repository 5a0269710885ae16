/- Shown and Check, whatever the table and the spans are. -/
import Derived.Test.YtcghafdemklnnaaVolume
namespace Go.Proofs.Ytcghafdemklnnaa
open Go.RowKit Go.Sort
attribute [local go_sem] Oper.calm Oper.calmAt Oper.calmUpon

def ShownIs (T S : List Int) (Sh Rm : List (List Int)) (slo shi xlo xhi a b k : Int) : Prop :=
  (¬ TableOk T S Sh Rm ∧ a = 0 ∧ b = 0 ∧ k = 1) ∨
  (TableOk T S Sh Rm ∧ ((¬ (FitsIn S slo shi ∧ FitsIn T xlo xhi) ∧ a = 0 ∧ b = 0 ∧ k = 2) ∨
  ((FitsIn S slo shi ∧ FitsIn T xlo xhi) ∧ a = (lowF T S Sh slo shi xlo xhi).1 / (lowF T S Sh slo shi xlo xhi).2 ∧ b = cdiv (highF T S Sh slo shi xlo xhi).1 (highF T S Sh slo shi xlo xhi).2 ∧ k = 0)))

set_option maxHeartbeats 1000000 in
set_option maxRecDepth 100000 in
theorem Check_any (A0 A1 A2 A3 : Option Addr) (c0 c1 c2 c3 : Nat) (T S : List Int) (Sh Rm : List (List Int)) (w : World) (ht : Hid (TableAt w A0 A1 A2 A3 T S Sh Rm)) :
    Calls Try.prog 20 #[.agg #[.slice A0 T.length c0, .slice A1 S.length c1, .slice A2 Sh.length c2, .slice A3 Rm.length c3]] w (fun e w' => ∃ k : Int, e = .returned (.int .i64 k) ∧ ((TableOk T S Sh Rm ∧ k = 0) ∨ (¬ TableOk T S Sh Rm ∧ k = 1)) ∧ Below w.heap.size w w') := by
  have hval := Lib.hid fun W (hb : Below w.heap.size w W) => validTable_any A0 A1 A2 A3 c0 c1 c2 c3 T S Sh Rm W (Lib.hid (ht.out.below hb))
  go_enter Try.func20, Try.ntmps20
  go_wp2_with fail
  refine calls_world (fun W => Below w.heap.size w W) ((Below.refl _ _).alloc (Nat.le_refl _) _) ?_
  intro W0 hB0
  refine (hval.out W0 hB0).mono ?_
  rintro e W1 ⟨r, rfl, hr, hb1⟩
  have hB1 := hB0.trans (hb1.mono hB0.size)
  cases r with
  | false =>
    replace hr := Lib.hid (fun h => Bool.noConfusion (hr.2 h) : ¬ TableOk T S Sh Rm)
    go_wp2
    go_ret
    exact ⟨1, rfl, .inr ⟨hr.out, rfl⟩, hB1⟩
  | true =>
    replace hr := Lib.hid (hr.1 rfl)
    go_wp2
    go_ret
    exact ⟨0, rfl, .inl ⟨hr.out, rfl⟩, hB1⟩

set_option maxHeartbeats 8000000 in
set_option maxRecDepth 100000 in
theorem Shown_any (A0 A1 A2 A3 : Option Addr) (c0 c1 c2 c3 : Nat) (T S : List Int) (Sh Rm : List (List Int)) (slo shi xlo xhi : Int) (w : World) (ht : Hid (TableAt w A0 A1 A2 A3 T S Sh Rm)) :
    Calls Try.prog 16 #[.agg #[.slice A0 T.length c0, .slice A1 S.length c1, .slice A2 Sh.length c2, .slice A3 Rm.length c3], .agg #[.int .i64 slo, .int .i64 shi], .agg #[.int .i64 xlo, .int .i64 xhi]] w (SpanErr (ShownIs T S Sh Rm slo shi xlo xhi) w) := by
  have hval := Lib.hid fun W (hb : Below w.heap.size w W) => validTable_any A0 A1 A2 A3 c0 c1 c2 c3 T S Sh Rm W (Lib.hid (ht.out.below hb))
  go_enter Try.func16, Try.ntmps16
  go_wp2_with fail
  refine calls_world (fun W => Below w.heap.size w W ∧ Blk W w.heap.size 25 #[.slice A0 T.length c0, .slice A1 S.length c1, .slice A2 Sh.length c2, .slice A3 Rm.length c3] ∧ Blk W (w.heap.size + 1) 27 #[.int .i64 slo, .int .i64 shi] ∧ Blk W (w.heap.size + 1 + 1) 27 #[.int .i64 xlo, .int .i64 xhi] ∧ Blk W (w.heap.size + 1 + 1 + 1) 27 #[.int .i64 0, .int .i64 0])
    ⟨((((Below.refl _ _).alloc (Nat.le_refl _) _).alloc (by simp) _).alloc (by simp; omega) _).alloc (by simp; omega) _, (((blk_at rfl).alloc _).alloc _).alloc _, ((blk_at (by simp)).alloc _).alloc _, (blk_at (by simp)).alloc _, blk_at (by simp)⟩ ?_
  rintro W0 ⟨hB0, b0, b1, b2, b3⟩
  refine (hval.out W0 hB0).mono ?_
  rintro e W1 ⟨r, rfl, hr, hb1⟩
  replace hr := Lib.hid hr
  have hB1 := hB0.trans (hb1.mono hB0.size)
  replace b0 := b0.below hb1 b0.lt
  replace b1 := b1.below hb1 b1.lt
  replace b2 := b2.below hb1 b2.lt
  replace b3 := b3.below hb1 b3.lt
  clear hb1 hB0 hval
  obtain ⟨r0, r1, _, _⟩ := b3.facts2
  have n1 : w.heap.size + 1 + 1 + 1 < W1.heap.size := b3.lt
  have hfail : ∀ k : Int, ShownIs T S Sh Rm slo shi xlo xhi 0 0 k → ∀ W', Below w.heap.size w W' → SpanErr (ShownIs T S Sh Rm slo shi xlo xhi) w (.returned (.tuple #[.agg #[.int .i64 0, .int .i64 0], .int .i64 k])) W' := fun k h W' hb => ⟨0, 0, k, rfl, h, hb⟩
  replace hfail := Lib.hid hfail
  by_cases hok : TableOk T S Sh Rm
  · have hrt : r = true := hr.out.2 hok
    subst hrt
    clear hr
    obtain ⟨tb, toff, sb, soff, rb, roff, mb, moff, rfl, rfl, rfl, rfl, tab⟩ := tab_of (ht.out.below hB1) hok
    replace tab := Lib.hid tab
    clear ht
    obtain ⟨t0, t1, t2, t3, _, _, _, _⟩ := b0.facts4
    obtain ⟨x0, x1, _, _⟩ := b1.facts2
    obtain ⟨z0, z1, _, _⟩ := b2.facts2
    have T2 := tab.out.oT.two
    have T32 := tab.out.oT.most
    have S2 := tab.out.oS.two
    have S32 := tab.out.oS.most
    have hft := Lib.hid fun W (hb : Below W1.heap.size W1 W) => fits_any xlo xhi tb toff c0 T W (by omega) (by omega) (tab.out.rT.below hb)
    have hfs := Lib.hid fun W (hb : Below W1.heap.size W1 W) => fits_any slo shi sb soff c1 S W (by omega) (by omega) (tab.out.rS.below hb)
    by_cases hfi : FitsIn S slo shi ∧ FitsIn T xlo xhi
    · have hx := Lib.hid hfi.2.within
      have hs := Lib.hid hfi.1.within
      have hlow := low_ok tab.out.oT tab.out.oS (gridOk_show tab.out.sh) hx.out hs.out ltF
      have hhigh := low_ok tab.out.oT tab.out.oS (gridOk_show tab.out.sh) hx.out hs.out gtF
      have hex := fun W (hb : Below W1.heap.size W1 W) => extremes_any tb toff c0 sb soff c1 rb roff c2 (.slice (some ⟨rb, roff, none⟩) Sh.length c2) (.slice (some ⟨mb, moff, none⟩) Rm.length c3) T S Sh slo shi xlo xhi ⟨_, _, _, rfl⟩ ⟨_, _, _, rfl⟩ (Lib.hid tab.out.oT) (Lib.hid tab.out.oS) (Lib.hid (gridOk_show tab.out.sh)) hx hs W (tab.out.rT.below hb) (tab.out.rS.below hb) (tab.out.rSh.below hb)
      have hfin : ∀ p q : Int × Int, lowF T S Sh slo shi xlo xhi = p → highF T S Sh slo shi xlo xhi = q → ShownIs T S Sh Rm slo shi xlo xhi (p.1 / p.2) (cdiv q.1 q.2) 0 := by
        rintro p q rfl rfl
        exact .inr ⟨hok, .inr ⟨hfi, rfl, rfl, rfl⟩⟩
      change FracOk (lowF T S Sh slo shi xlo xhi) ∧ _ at hlow
      change FracOk (highF T S Sh slo shi xlo xhi) ∧ _ at hhigh
      replace hlow := hlow.1
      replace hhigh := hhigh.1
      generalize hp : lowF T S Sh slo shi xlo xhi = p at hlow hex
      generalize hqq : highF T S Sh slo shi xlo xhi = q at hhigh hex
      replace hfin := Lib.hid (hfin p q hp hqq)
      clear hp hqq
      obtain ⟨p1, p2⟩ := p
      obtain ⟨q1, q2⟩ := q
      unfold FracOk at hlow hhigh
      dsimp only at hex hfin hlow hhigh
      have hfi1 := Lib.hid hfi.1
      have hfi2 := Lib.hid hfi.2
      clear hok hfi hx hs hfail
      replace hex := Lib.hid hex
      go_wp2_with fail
      refine (hfs.out _ (Below.refl _ _)).mono ?_
      rintro e W3 ⟨r, rfl, hr, hb3⟩
      have hrt : r = true := hr.2 hfi1.out
      subst hrt
      have hB3 := hB1.trans (hb3.mono hB1.size)
      replace b0 := b0.below hb3 b0.lt
      replace b1 := b1.below hb3 b1.lt
      replace b2 := b2.below hb3 b2.lt
      replace b3 := b3.below hb3 b3.lt
      clear hr t0 t1 t2 t3 x0 x1 z0 z1 r0 r1 hfs hB1
      obtain ⟨t0, t1, t2, t3, _, _, _, _⟩ := b0.facts4
      obtain ⟨z0, z1, _, _⟩ := b2.facts2
      go_wp2_with fail
      refine (hft.out _ hb3).mono ?_
      rintro e W4 ⟨r, rfl, hr, hb4⟩
      have hrt : r = true := hr.2 hfi2.out
      subst hrt
      have hB4 := hB3.trans (hb4.mono hB3.size)
      replace b0 := b0.below hb4 b0.lt
      replace b1 := b1.below hb4 b1.lt
      replace b2 := b2.below hb4 b2.lt
      replace b3 := b3.below hb4 b3.lt
      replace hb4 := hb3.trans (hb4.mono hb3.size)
      clear hr t0 t1 t2 t3 z0 z1 hft hb3 hB3
      obtain ⟨t0, t1, t2, t3, _, _, _, _⟩ := b0.facts4
      obtain ⟨x0, x1, _, _⟩ := b1.facts2
      obtain ⟨z0, z1, _, _⟩ := b2.facts2
      go_wp2_with fail
      refine (hex.out W4 hb4).mono ?_
      rintro e W5 ⟨rfl, hb5⟩
      have hB5 := hB4.trans (hb5.mono hB4.size)
      replace b3 := b3.below hb5 b3.lt
      clear t0 t1 t2 t3 x0 x1 z0 z1 hex hb5 hb4 hB4 b0 b1 b2
      go_upto_region 6 with fail
      refine wp_world (fun W => Below w.heap.size w W ∧ Blk W W5.heap.size 77 #[.int .i64 p1, .int .i64 p2] ∧ Blk W (W5.heap.size + 1) 77 #[.int .i64 q1, .int .i64 q2] ∧ Blk W (w.heap.size + 1 + 1 + 1) 27 #[.int .i64 0, .int .i64 0])
        ⟨(hB5.alloc hB5.size _).alloc (hB5.alloc hB5.size _).size _, (Blk.new _ _ _).alloc _, blk_at (by simp), (b3.alloc _).alloc _⟩ ?_
      clear b3 hB5
      generalize W5.heap.size = g5
      rintro W13 ⟨hB13, bm, bn, b3⟩
      obtain ⟨k0, k1, _, _⟩ := bm.facts2
      obtain ⟨j0, j1, _, _⟩ := bn.facts2
      have k0' := fun d os => cell_regrown k0 d os
      have k1' := fun d os => cell_regrown k1 d os
      have j0' := fun d os => cell_regrown j0 d os
      have j1' := fun d os => cell_regrown j1 d os
      have hfl := Lib.hid fun W => floor_any p1 p2 W (by omega) (by omega) (by omega) (by omega)
      have hcl := Lib.hid fun W => ceil_any q1 q2 W (by omega) (by omega) (by omega) (by omega)
      refine wp_region_below_tail 5 (by kernel_rfl) (by kernel_rfl) ?_
      simp only [List.take_succ_cons, List.take_zero, List.drop_succ_cons, List.drop_zero]
      repeat (quiet_step (first | (go_at_call 51; exact quiet_call (fun W1 _ => hfl.out W1)) | (go_at_call 52; exact quiet_call (fun W1 _ => hcl.out W1))))
      refine wpQuiet_nil ?_
      intro _ hw'
      obtain ⟨⟨dq, osq⟩, hw''⟩ := hw'
      subst hw''
      have hb14 := below_regrown W13 dq osq
      replace b3 := b3.below hb14 b3.lt
      have hB14 := hB13.trans (hb14.mono hB13.size)
      clear k0' k1' j0' j1' k0 k1 j0 j1 bm bn hb14 hB13
      generalize grow (redrawn W13 dq) osq = W14 at b3 hB14 ⊢
      obtain ⟨r0, r1, _, _⟩ := b3.facts2
      go_wp2
      refine bodyPost_ret (v := .tuple #[.agg #[.int .i64 (p1 / p2), .int .i64 (cdiv q1 q2)], .int .i64 0]) (by simp [results, Try.results16, go_sem, r0, r1]) rfl ?_
      exact ⟨_, _, 0, rfl, hfin.out, (hB14.setCell (by simp only; omega) _).setCell (by simp only; omega) _⟩
    · have hnf := Lib.hid (show ShownIs T S Sh Rm slo shi xlo xhi 0 0 2 from .inr ⟨hok, .inl ⟨hfi, rfl, rfl, rfl⟩⟩)
      go_wp2_with fail
      refine (hfs.out _ (Below.refl _ _)).mono ?_
      rintro e W3 ⟨q, rfl, hq, hb3⟩
      replace hq := Lib.hid hq
      have hB3 := hB1.trans (hb3.mono hB1.size)
      replace b0 := b0.below hb3 b0.lt
      replace b2 := b2.below hb3 b2.lt
      replace b3 := b3.below hb3 b3.lt
      clear t0 t1 t2 t3 x0 x1 z0 z1 r0 r1
      obtain ⟨r0, r1, _, _⟩ := b3.facts2
      obtain ⟨t0, t1, t2, t3, _, _, _, _⟩ := b0.facts4
      obtain ⟨z0, z1, _, _⟩ := b2.facts2
      have n3 := b3.lt
      cases q with
      | false =>
        go_wp2_with fail
        refine bodyPost_ret (v := .tuple #[.agg #[.int .i64 0, .int .i64 0], .int .i64 2]) (by simp [results, Try.results16, go_sem, r0, r1]) rfl ?_
        exact hfail.out 2 hnf.out _ ((hB3.setCell (by simp only; omega) _).setCell (by simp only; omega) _)
      | true =>
        go_wp2_with fail
        refine (hft.out _ hb3).mono ?_
        rintro e W4 ⟨q, rfl, hq4, hb4⟩
        have hqf : q = false := by cases q with | false => rfl | true => exact absurd ⟨hq.out.1 (by trivial), hq4.1 (by trivial)⟩ hfi
        subst hqf
        have hB4 := hB3.trans (hb4.mono hB3.size)
        replace b3 := b3.below hb4 b3.lt
        clear hq hq4 t0 t1 t2 t3 z0 z1 r0 r1 hfi
        obtain ⟨r0, r1, _, _⟩ := b3.facts2
        go_wp2_with fail
        refine bodyPost_ret (v := .tuple #[.agg #[.int .i64 0, .int .i64 0], .int .i64 2]) (by simp [results, Try.results16, go_sem, r0, r1]) rfl ?_
        exact hfail.out 2 hnf.out _ ((hB4.setCell (by simp only; omega) _).setCell (by simp only; omega) _)
  · have hrf : r = false := by cases r with | false => rfl | true => exact absurd (hr.out.1 rfl) hok
    subst hrf
    clear hr ht
    have hnf : ShownIs T S Sh Rm slo shi xlo xhi 0 0 1 := .inl ⟨hok, rfl, rfl, rfl⟩
    go_wp2_with fail
    refine bodyPost_ret (v := .tuple #[.agg #[.int .i64 0, .int .i64 0], .int .i64 1]) (by simp [results, Try.results16, go_sem, r0, r1]) rfl ?_
    exact hfail.out 1 hnf _ ((hB1.setCell (by simp only; omega) _).setCell (by simp only; omega) _)
end Go.Proofs.Ytcghafdemklnnaa
