/- alive: the results that the document fixes, in any memory. -/
import Derived.Test.YtcghafdemklnnaaExample
namespace Go.Proofs.Ytcghafdemklnnaa
open Go.RowKit Go.Sort

set_option maxHeartbeats 1000000 in
theorem one_any (n : Int) (w : World) : Calls Try.prog 33 #[.int .i64 n] w fun e w' => e = .returned (.agg #[.int .i64 n, .int .i64 n]) ∧ Below w.heap.size w w' := by
  go_enter Try.func33, Try.ntmps33
  go_wp2
  refine ret_world (fun W => Below w.heap.size w W ∧ Blk W w.heap.size 27 #[.int .i64 n, .int .i64 n]) ⟨(Below.refl _ _).alloc (Nat.le_refl _) _, Blk.new _ _ _⟩ ?_
  rintro W ⟨hB, b0⟩
  obtain ⟨x0, x1, _, _⟩ := b0.facts2
  exact bodyPost_ret (v := .agg #[.int .i64 n, .int .i64 n]) (by simp [results, Try.results33, go_sem, x0, x1]) rfl ⟨rfl, hB⟩

set_option maxHeartbeats 8000000 in
set_option maxRecDepth 100000 in
theorem alive_any (w : World) : Calls Try.prog 15 #[] w fun e w' => e = .returned (.bool true) ∧ Below w.heap.size w w' := by
  have hsm := Lib.hid sample_any
  have hon := Lib.hid one_any
  go_enter Try.func15, Try.ntmps15
  go_wp2_with fail
  refine (hsm.out _).mono ?_
  rintro e W1 ⟨b0, b1, b2, b3, rfl, ht, hB1⟩
  dsimp only [exTab]
  go_wp2_with fail
  refine (hon.out _ _).mono ?_
  rintro e W2 ⟨rfl, hb2⟩
  have hB2 := hB1.trans (hb2.mono hB1.size)
  have hst := Lib.hid (Strength_any _ _ _ _ 3 3 3 3 exT exS exSh exRm 5000 5000 200 300 W2 (Lib.hid (ht.below hb2)) (by omega) (by omega) (by omega) (by omega))
  clear ht hb2 hB1
  go_wp2_with fail
  refine hst.out.mono ?_
  rintro e W3 ⟨a, b, k, rfl, hr, hb3⟩
  obtain ⟨rfl, rfl, rfl⟩ := ex_strength hr
  have hB3 := hB2.trans (hb3.mono hB2.size)
  clear hst hr hb3 hB2
  go_upto_region 2 with fail
  refine wp_world (fun W => Below w.heap.size w W ∧ Blk W W3.heap.size 27 #[.int .i64 4528, .int .i64 5000]) ⟨hB3.alloc hB3.size _, Blk.new _ _ _⟩ ?_
  clear hB3
  generalize W3.heap.size = g1
  rintro W4 ⟨hB4, bg1⟩
  go_wp2_with fail
  refine (hsm.out _).mono ?_
  rintro e W5 ⟨b0, b1, b2, b3, rfl, ht, hb5⟩
  dsimp only [exTab]
  replace bg1 := bg1.below hb5 bg1.lt
  have hB5 := hB4.trans (hb5.mono hB4.size)
  clear hb5 hB4
  go_wp2_with fail
  refine (hon.out _ _).mono ?_
  rintro e W6 ⟨rfl, hb6⟩
  go_wp2_with fail
  refine (hon.out _ _).mono ?_
  rintro e W7 ⟨rfl, hb7⟩
  go_wp2_with fail
  refine (hon.out _ _).mono ?_
  rintro e W8 ⟨rfl, hb8⟩
  replace hb7 := hb6.trans (hb7.mono hb6.size)
  replace hb8 := hb7.trans (hb8.mono hb7.size)
  clear hb6 hb7
  replace bg1 := bg1.below hb8 bg1.lt
  have hB8 := hB5.trans (hb8.mono hB5.size)
  have hvo := Lib.hid (Volume_any (Lib.hid divFor_small) _ _ _ _ 3 3 3 3 exT exS exSh exRm 1009000 1009000 5000 5000 300 300 W8 (Lib.hid (ht.below hb8)) (Lib.hid (by omega)))
  clear ht hb8 hB5
  go_wp2_with fail
  refine hvo.out.mono ?_
  rintro e W9 ⟨a, b, k, rfl, hr, hb9⟩
  obtain ⟨rfl, rfl, rfl⟩ := ex_volume hr
  have hB9 := hB8.trans (hb9.mono hB8.size)
  replace bg1 := bg1.below hb9 bg1.lt
  clear hvo hr hb9 hB8
  go_upto_region 3 with fail
  refine wp_world (fun W => Below w.heap.size w W ∧ Blk W g1 27 #[.int .i64 4528, .int .i64 5000] ∧ Blk W W9.heap.size 27 #[.int .i64 1000000, .int .i64 1000000]) ⟨hB9.alloc hB9.size _, bg1.alloc _, Blk.new _ _ _⟩ ?_
  clear hB9 bg1
  generalize W9.heap.size = g3
  rintro W10 ⟨hB10, bg1, bg3⟩
  go_wp2_with fail
  refine (hon.out _ _).mono ?_
  rintro e W11 ⟨rfl, hb11⟩
  go_wp2_with fail
  refine (hon.out _ _).mono ?_
  rintro e W12 ⟨rfl, hb12⟩
  replace hb12 := hb11.trans (hb12.mono hb11.size)
  go_wp2_with fail
  refine (hon.out _ _).mono ?_
  rintro e W13 ⟨rfl, hb13⟩
  replace hb13 := hb12.trans (hb13.mono hb12.size)
  go_wp2_with fail
  refine (hon.out _ _).mono ?_
  rintro e W14 ⟨rfl, hb14⟩
  replace hb14 := hb13.trans (hb14.mono hb13.size)
  clear hb11 hb12 hb13
  replace bg1 := bg1.below hb14 bg1.lt
  replace bg3 := bg3.below hb14 bg3.lt
  have hB14 := hB10.trans (hb14.mono hB10.size)
  clear hb14 hB10
  go_wp2_with fail
  refine calls_world (fun W => Below w.heap.size w W ∧ Blk W g1 27 #[.int .i64 4528, .int .i64 5000] ∧ Blk W g3 27 #[.int .i64 1000000, .int .i64 1000000] ∧ Blk W W14.heap.size 41 #[.int .i64 1000, .int .i64 1000, .int .i64 6000, .int .i64 6000, .int .i64 1000, .int .i64 1000, .int .i64 4000, .int .i64 4000]) ⟨hB14.alloc hB14.size _, bg1.alloc _, bg3.alloc _, Blk.new _ _ _⟩ ?_
  clear hB14 bg1 bg3
  generalize W14.heap.size = g4
  rintro W15 ⟨hB15, bg1, bg3, bp⟩
  have hps : PartsAt W15 (some ⟨g4, 0, none⟩) exPs := fun _ => ⟨g4, 0, rfl, bp.lt, fun i p hi => by
    have hlt : i < 2 := (List.getElem?_eq_some_iff.1 hi).1
    have hi' : i = 0 ∨ i = 1 := by omega
    rcases hi' with rfl | rfl <;> · cases hi; exact ⟨bp.cell _, bp.cell _, bp.cell _, bp.cell _⟩⟩
  have hmx := Lib.hid (Mix_any (Lib.hid divFor_small) (some ⟨g4, 0, none⟩) 2 exPs 100 W15 (by decide) (Lib.hid hps) (Lib.hid (fun _ _ => by decide)))
  clear hps
  refine hmx.out.mono ?_
  rintro e W16 ⟨a, b, c, d, k, rfl, hr, hb16⟩
  obtain ⟨rfl, rfl, rfl, rfl, rfl⟩ := ex_mix hr
  have hB16 := hB15.trans (hb16.mono hB15.size)
  replace bg1 := bg1.below hb16 bg1.lt
  replace bg3 := bg3.below hb16 bg3.lt
  clear hmx hr hb16 hB15 bp
  go_upto_region 4 with fail
  refine wp_world (fun W => Below w.heap.size w W ∧ Blk W g1 27 #[.int .i64 4528, .int .i64 5000] ∧ Blk W g3 27 #[.int .i64 1000000, .int .i64 1000000] ∧ Blk W W16.heap.size 41 #[.int .i64 1980, .int .i64 2000, .int .i64 5000, .int .i64 5051]) ⟨hB16.alloc hB16.size _, bg1.alloc _, bg3.alloc _, Blk.new _ _ _⟩ ?_
  clear hB16 bg1 bg3
  generalize W16.heap.size = g5
  rintro W17 ⟨hB17, bg1, bg3, bg5⟩
  go_upto_region 5 with fail
  refine wp_world (fun W => Below w.heap.size w W ∧ Blk W g1 27 #[.int .i64 4528, .int .i64 5000] ∧ Blk W g3 27 #[.int .i64 1000000, .int .i64 1000000] ∧ Blk W g5 41 #[.int .i64 1980, .int .i64 2000, .int .i64 5000, .int .i64 5051] ∧ Blk W W17.heap.size 41 #[.int .i64 1980, .int .i64 2000, .int .i64 5000, .int .i64 5051]) ⟨hB17.alloc hB17.size _, bg1.alloc _, bg3.alloc _, bg5.alloc _, Blk.new _ _ _⟩ ?_
  clear hB17 bg1 bg3 bg5
  generalize W17.heap.size = g7
  rintro W18 ⟨hB18, bg1, bg3, bg5, bg7⟩
  obtain ⟨x0, x1, _, _⟩ := bg1.facts2
  obtain ⟨y0, y1, _, _⟩ := bg3.facts2
  obtain ⟨u0, u1, u2, u3, _, _, _, _⟩ := bg5.facts4
  obtain ⟨v0, v1, v2, v3, _, _, _, _⟩ := bg7.facts4
  have x0' := fun d os => cell_regrown x0 d os
  have x1' := fun d os => cell_regrown x1 d os
  have y0' := fun d os => cell_regrown y0 d os
  have y1' := fun d os => cell_regrown y1 d os
  have u0' := fun d os => cell_regrown u0 d os
  have u1' := fun d os => cell_regrown u1 d os
  have u2' := fun d os => cell_regrown u2 d os
  have u3' := fun d os => cell_regrown u3 d os
  have v0' := fun d os => cell_regrown v0 d os
  have v1' := fun d os => cell_regrown v1 d os
  have v2' := fun d os => cell_regrown v2 d os
  have v3' := fun d os => cell_regrown v3 d os
  refine wp_region_quiet_below (by kernel_rfl) (by kernel_rfl) ?_
  repeat (quiet_step (first | (go_at_call 33; exact quiet_call (fun W1 _ => hon.out _ W1))))
  refine wpQuiet_nil ?_
  intro _ hw'
  obtain ⟨⟨dq, osq⟩, hw''⟩ := hw'
  subst hw''
  have hb19 := below_regrown W18 dq osq
  have hB19 := hB18.trans (hb19.mono hB18.size)
  clear x0 x1 y0 y1 u0 u1 u2 u3 v0 v1 v2 v3 x0' x1' y0' y1' u0' u1' u2' u3' v0' v1' v2' v3' hb19 hB18 bg1 bg3 bg5 bg7
  generalize grow (redrawn W18 dq) osq = W19 at *
  go_wp2
  go_ret
  exact ⟨rfl, hB19⟩
end Go.Proofs.Ytcghafdemklnnaa
