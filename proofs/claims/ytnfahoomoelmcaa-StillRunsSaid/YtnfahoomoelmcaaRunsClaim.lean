/- StillRuns returns true for all spans, numbers and curves. -/
import Derived.Test.YtnfahoomoelmcaaRows
import Derived.Test.YtnfahoomoelmcaaOpenC
import Derived.Test.YtnfahoomoelmcaaMaRuns
namespace Go.Proofs.Ytnfahoomoelmcaa.stillRuns
open Go.ChangeShapes Go.WideShapes Go.ChangeAt Go.RowKit Go.Deep
theorem own : ownKnob Try.prog.godebug = none := by kernel_rfl
theorem laidOut : laidOutB Try.prog = true := by kernel_rfl
set_option maxHeartbeats 1000000 in
set_option maxRecDepth 100000 in
theorem lifted (os : Os) (started : os.Started) (H : Type) (enc : TypeId × Value → H) :
    ReturnsInHanded {} Try.checked os 5 .any (Rows.stillRunsSpec.pre6 enc Try.prog Try.f5 Rows.stillRunsRow.domain false) (Rows.stillRunsSpec.post enc Try.prog Try.f5 false true false false) := by
  refine returnsInHanded_of_change_sized (C := Try.checked) own started (by kernel_rfl) Try.func5
    (ChangeSpec.witness6 (enc := enc) (C := Try.checked) false ⟨#[], #[.agg #[.int .i64 0, .int .i64 0], .agg #[.int .i64 0, .int .i64 0], .int .i64 0, .int .i64 0, .agg #[.int .i64 0, .int .i64 0], .agg #[.int .i64 0, .int .i64 0], .int .i64 0, .agg #[.slice none 0 0, .slice none 0 0], .int .i64 0, .int .i64 0], []⟩ 8 (by kernel_rfl) (by kernel_rfl) (by kernel_rfl) (by kernel_rfl)) ?_
  intro W base args ds gs before hval0 hW _ hsz0 _
  have hsz : (DataW.weightsEach Try.prog (Try.f5.params.toList ++ Rows.stillRunsSpec.plain.varTypes Try.prog) (ds ++ gs)).all (· ≤ reachBytes) = true := hsz0
  have hval : ∀ (j : Nat) t v, Try.f5.params[j]? = some t → args[j]? = some v → Value.okWide Try.prog W .any base t v := hval0
  have hW' := hW
  obtain ⟨p, q, hA0, hV, rfl, hfz, hnd⟩ := hW
  have hA : DataW.TrodAll enc Try.prog W 0 (fun _ => true) true Try.f5.params.toList args.toList ds p := hA0
  rw [Try.params5] at hA hval hsz
  obtain ⟨v0, vs0, d0, ds0, pp0, qq0, hargs, rfl, rfl, hh0, rr0⟩ := trodAll_cons hA
  obtain ⟨v1, vs1, d1, ds1, pp1, qq1, rfl, rfl, rfl, hh1, rr1⟩ := trodAll_cons rr0
  obtain ⟨v2, vs2, d2, ds2, pp2, qq2, rfl, rfl, rfl, hh2, rr2⟩ := trodAll_cons rr1
  obtain ⟨v3, vs3, d3, ds3, pp3, qq3, rfl, rfl, rfl, hh3, rr3⟩ := trodAll_cons rr2
  obtain ⟨v4, vs4, d4, ds4, pp4, qq4, rfl, rfl, rfl, hh4, rr4⟩ := trodAll_cons rr3
  obtain ⟨v5, vs5, d5, ds5, pp5, qq5, rfl, rfl, rfl, hh5, rr5⟩ := trodAll_cons rr4
  obtain ⟨v6, vs6, d6, ds6, pp6, qq6, rfl, rfl, rfl, hh6, rr6⟩ := trodAll_cons rr5
  obtain ⟨v7, vs7, d7, ds7, pp7, qq7, rfl, rfl, rfl, hh7, rr7⟩ := trodAll_cons rr6
  obtain ⟨v8, vs8, d8, ds8, pp8, qq8, rfl, rfl, rfl, hh8, rr8⟩ := trodAll_cons rr7
  obtain ⟨v9, vs9, d9, ds9, pp9, qq9, rfl, rfl, rfl, hh9, rr9⟩ := trodAll_cons rr8
  obtain ⟨rfl, rfl, rfl⟩ := trodAll_nil rr9
  obtain rfl : args = #[v0, v1, v2, v3, v4, v5, v6, v7, v8, v9] := by cases args; simp_all
  obtain ⟨rfl, rfl⟩ := trodVars_none hV
  have kk0 := hh0
  have lt0 : ∀ x ∈ pp0, x.block < W.heap.size := by obtain ⟨m, hm⟩ := kk0; exact DataW.trod_lt m _ _ _ hm
  obtain ⟨freshlo, freshhi, rfl, freshb1, freshb2⟩ := open_span (hval 0 27 v0 rfl rfl)
  have kk1 := hh1
  have lt1 : ∀ x ∈ pp1, x.block < W.heap.size := by obtain ⟨m, hm⟩ := kk1; exact DataW.trod_lt m _ _ _ hm
  obtain ⟨keeplo, keephi, rfl, keepb1, keepb2⟩ := open_span (hval 1 27 v1 rfl rfl)
  have kk2 := hh2
  have lt2 : ∀ x ∈ pp2, x.block < W.heap.size := by obtain ⟨m, hm⟩ := kk2; exact DataW.trod_lt m _ _ _ hm
  obtain ⟨start, rfl, startb1, startb2⟩ := okInt Try.underlying3 (hval 2 3 v2 rfl rfl)
  have kk3 := hh3
  have lt3 : ∀ x ∈ pp3, x.block < W.heap.size := by obtain ⟨m, hm⟩ := kk3; exact DataW.trod_lt m _ _ _ hm
  obtain ⟨limit, rfl, limitb1, limitb2⟩ := okInt Try.underlying3 (hval 3 3 v3 rfl rfl)
  have kk4 := hh4
  have lt4 : ∀ x ∈ pp4, x.block < W.heap.size := by obtain ⟨m, hm⟩ := kk4; exact DataW.trod_lt m _ _ _ hm
  obtain ⟨thicklo, thickhi, rfl, thickb1, thickb2⟩ := open_span (hval 4 27 v4 rfl rfl)
  have kk5 := hh5
  have lt5 : ∀ x ∈ pp5, x.block < W.heap.size := by obtain ⟨m, hm⟩ := kk5; exact DataW.trod_lt m _ _ _ hm
  obtain ⟨wearlo, wearhi, rfl, wearb1, wearb2⟩ := open_span (hval 5 27 v5 rfl rfl)
  have kk6 := hh6
  have lt6 : ∀ x ∈ pp6, x.block < W.heap.size := by obtain ⟨m, hm⟩ := kk6; exact DataW.trod_lt m _ _ _ hm
  obtain ⟨least, rfl, leastb1, leastb2⟩ := okInt Try.underlying3 (hval 6 3 v6 rfl rfl)
  have kk7 := hh7
  have lt7 : ∀ x ∈ pp7, x.block < W.heap.size := by obtain ⟨m, hm⟩ := kk7; exact DataW.trod_lt m _ _ _ hm
  obtain ⟨cc_A0, cc_c0, cc_A1, cc_c1, cc, rfl, cc_h0, cc_s0, cc_h1, cc_s1, cc_len, cc_bl, cc_bv⟩ := open_curve (hval 7 25 v7 rfl rfl) kk7 (fun n hn => of_decide_eq_true (List.all_eq_true.1 hsz n (DataW.weights_mem_each (j := 7) (t := 25) rfl rfl n hn)))
  have kk8 := hh8
  have lt8 : ∀ x ∈ pp8, x.block < W.heap.size := by obtain ⟨m, hm⟩ := kk8; exact DataW.trod_lt m _ _ _ hm
  obtain ⟨ff, rfl, ffb1, ffb2⟩ := okInt Try.underlying3 (hval 8 3 v8 rfl rfl)
  have kk9 := hh9
  have lt9 : ∀ x ∈ pp9, x.block < W.heap.size := by obtain ⟨m, hm⟩ := kk9; exact DataW.trod_lt m _ _ _ hm
  obtain ⟨tt, rfl, ttb1, ttb2⟩ := okInt Try.underlying3 (hval 9 3 v9 rfl rfl)
  clear hA0 hval0 hsz0
  refine (Go.Proofs.Ytnfahoomoelmcaa.wormtublaw04_StillRuns_ok FU (MSpan.mk freshlo freshhi) (MSpan.mk keeplo keephi) start limit (MSpan.mk thicklo thickhi) (MSpan.mk wearlo wearhi) least cc ff tt W cc_A0 cc_c0 cc_h0 cc_s0 cc_A1 cc_c1 cc_h1 cc_s1 true (runs_true _ _ _ _ _ _ _ _ _ _ (by omega))).mono fun e W' ⟨he, bel⟩ => ?_
  subst he
  exact ⟨_, rfl, _, _, _, [], _, [], hW', trodAll_mk1 (shut_bool Try.underlying4 _), (trodAll_cons_mk (Below.trod laidOut (by kernel_rfl) (of_decide_eq_true (by kernel_rfl)) kk0 bel lt0) (trodAll_cons_mk (Below.trod laidOut (by kernel_rfl) (of_decide_eq_true (by kernel_rfl)) kk1 bel lt1) (trodAll_cons_mk (Below.trod laidOut (by kernel_rfl) (of_decide_eq_true (by kernel_rfl)) kk2 bel lt2) (trodAll_cons_mk (Below.trod laidOut (by kernel_rfl) (of_decide_eq_true (by kernel_rfl)) kk3 bel lt3) (trodAll_cons_mk (Below.trod laidOut (by kernel_rfl) (of_decide_eq_true (by kernel_rfl)) kk4 bel lt4) (trodAll_cons_mk (Below.trod laidOut (by kernel_rfl) (of_decide_eq_true (by kernel_rfl)) kk5 bel lt5) (trodAll_cons_mk (Below.trod laidOut (by kernel_rfl) (of_decide_eq_true (by kernel_rfl)) kk6 bel lt6) (trodAll_cons_mk (Below.trod laidOut (by kernel_rfl) (of_decide_eq_true (by kernel_rfl)) kk7 bel lt7) (trodAll_cons_mk (Below.trod laidOut (by kernel_rfl) (of_decide_eq_true (by kernel_rfl)) kk8 bel lt8) (trodAll_cons_mk (Below.trod laidOut (by kernel_rfl) (of_decide_eq_true (by kernel_rfl)) kk9 bel lt9) trodAll_mk0)))))))))), rfl, bel.frame _, fun h => by cases h⟩
theorem over : Rows.stillRunsRow.holds Try.pinned (OpenSpec.ofChange Rows.stillRunsSpec) :=
  OpenClaim.holds_of_wide 5 Try.f5 rfl rfl rfl rfl rfl rfl rfl ⟨rfl, rfl, rfl, rfl, rfl⟩ rfl rfl rfl rfl rfl (by kernel_rfl) Try.func5 (by kernel_rfl)
    (of_decide_eq_true (by kernel_rfl)) (by unfold Func.isWrapper; first | (rw [if_pos (by decide +kernel)]; kernel_rfl) | (rw [if_neg (by decide +kernel)]; exact ⟨rfl, rfl⟩))
    (fun os started H enc _ => lifted os started H enc)
/-- the given statement -/
theorem proved : Rows.StillRunsSaid := over
end Go.Proofs.Ytnfahoomoelmcaa.stillRuns
