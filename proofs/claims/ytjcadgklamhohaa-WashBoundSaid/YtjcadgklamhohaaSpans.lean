/- What the methods of a span return. -/
import Derived.Test.YtjcadgklamhohaaCells
import Derived.Test.YtjcadgklamhohaaNum
namespace Go.Proofs.Ytjcadgklamhohaa
open Go.RowKit Go.Sort
attribute [local go_sem] Oper.calm Oper.calmAt Oper.calmUpon

set_option maxHeartbeats 1000000 in
theorem up_any (a b u : Int) (w : World) (ha : 0 ≤ a) (hb : 0 < b) (hab : a + b ≤ 9223372036854775807) (hu : Hid (upQ a b = u)) :
    Calls Try.prog 73 #[.int .i64 a, .int .i64 b] w fun e w' => e = .returned (.int .i64 u) ∧ Below w.heap.size w w' := by
  have e1 : (a + b - 1).tdiv b = u := by rw [Int.tdiv_eq_ediv_of_nonneg (by omega)]; exact hu.out
  have e2 := @upQ_bd a b hb ha
  rw [hu.out] at e2
  go_enter Try.func73, Try.ntmps73
  go_wp2
  go_ret
  exact ⟨rfl, Below.refl _ _⟩

set_option maxHeartbeats 1000000 in
theorem exactly_any (n : Int) (w : World) : Calls Try.prog 51 #[.int .i64 n] w fun e w' => e = .returned (.agg #[.int .i64 n, .int .i64 n]) ∧ Below w.heap.size w w' := by
  go_enter Try.func51, Try.ntmps51
  go_wp2
  refine ret_world (fun W => Below w.heap.size w W ∧ Blk W w.heap.size 83 #[.int .i64 n, .int .i64 n]) ⟨(Below.refl _ _).alloc (Nat.le_refl _) _, Blk.new _ _ _⟩ ?_
  rintro W ⟨hB, b0⟩
  obtain ⟨x0, x1, _, _⟩ := b0.facts2
  exact bodyPost_ret (v := .agg #[.int .i64 n, .int .i64 n]) (by simp [results, Try.results51, go_sem, x0, x1]) rfl ⟨rfl, hB⟩

set_option maxHeartbeats 1000000 in
theorem coolings_any (w : World) : Calls Try.prog 77 #[] w fun e w' => e = .returned (.agg #[.int .i64 0, .int .i64 150000]) ∧ Below w.heap.size w w' := by
  go_enter Try.func77, Try.ntmps77
  go_wp2
  refine ret_world (fun W => Below w.heap.size w W ∧ Blk W w.heap.size 83 #[.int .i64 0, .int .i64 150000]) ⟨(Below.refl _ _).alloc (Nat.le_refl _) _, Blk.new _ _ _⟩ ?_
  rintro W ⟨hB, b0⟩
  obtain ⟨x0, x1, _, _⟩ := b0.facts2
  exact bodyPost_ret (v := .agg #[.int .i64 0, .int .i64 150000]) (by simp [results, Try.results77, go_sem, x0, x1]) rfl ⟨rfl, hB⟩

set_option maxHeartbeats 1000000 in
theorem degrees_any (w : World) : Calls Try.prog 84 #[] w fun e w' => e = .returned (.agg #[.int .i64 (-50000), .int .i64 150000]) ∧ Below w.heap.size w w' := by
  go_enter Try.func84, Try.ntmps84
  go_wp2
  refine ret_world (fun W => Below w.heap.size w W ∧ Blk W w.heap.size 83 #[.int .i64 (-50000), .int .i64 150000]) ⟨(Below.refl _ _).alloc (Nat.le_refl _) _, Blk.new _ _ _⟩ ?_
  rintro W ⟨hB, b0⟩
  obtain ⟨x0, x1, _, _⟩ := b0.facts2
  exact bodyPost_ret (v := .agg #[.int .i64 (-50000), .int .i64 150000]) (by simp [results, Try.results84, go_sem, x0, x1]) rfl ⟨rfl, hB⟩

set_option maxHeartbeats 1000000 in
theorem plus_any (a b c d u v : Int) (w : World) (hu : Hid (a + c = u)) (hv : Hid (b + d = v)) (bu : -9223372036854775808 ≤ u ∧ u ≤ 9223372036854775807) (bv : -9223372036854775808 ≤ v ∧ v ≤ 9223372036854775807) :
    Calls Try.prog 69 #[.agg #[.int .i64 a, .int .i64 b], .agg #[.int .i64 c, .int .i64 d]] w fun e w' => e = .returned (.agg #[.int .i64 u, .int .i64 v]) ∧ Below w.heap.size w w' := by
  have w1 : IntKind.i64.wrap (a + c) = u := by rw [IntWalk.i64_in _ (by rw [hu.out]; exact bu)]; exact hu.out
  have w2 : IntKind.i64.wrap (b + d) = v := by rw [IntWalk.i64_in _ (by rw [hv.out]; exact bv)]; exact hv.out
  clear bu bv
  go_enter Try.func69, Try.ntmps69
  go_wp2
  refine ret_world (fun W => Below w.heap.size w W ∧ Blk W (w.heap.size + 1 + 1) 83 #[.int .i64 u, .int .i64 v]) ⟨(((Below.refl _ _).alloc (Nat.le_refl _) _).alloc (by simp) _).alloc (by simp; omega) _, blk_at (by simp)⟩ ?_
  rintro W ⟨hB, b0⟩
  obtain ⟨x0, x1, _, _⟩ := b0.facts2
  exact bodyPost_ret (v := .agg #[.int .i64 u, .int .i64 v]) (by simp [results, Try.results69, go_sem, x0, x1]) rfl ⟨rfl, hB⟩

set_option maxHeartbeats 1000000 in
theorem less_any (a b c d u v : Int) (w : World) (hu : Hid (a - d = u)) (hv : Hid (b - c = v)) (bu : -9223372036854775808 ≤ u ∧ u ≤ 9223372036854775807) (bv : -9223372036854775808 ≤ v ∧ v ≤ 9223372036854775807) :
    Calls Try.prog 54 #[.agg #[.int .i64 a, .int .i64 b], .agg #[.int .i64 c, .int .i64 d]] w fun e w' => e = .returned (.agg #[.int .i64 u, .int .i64 v]) ∧ Below w.heap.size w w' := by
  have w1 : IntKind.i64.wrap (a - d) = u := by rw [IntWalk.i64_in _ (by rw [hu.out]; exact bu)]; exact hu.out
  have w2 : IntKind.i64.wrap (b - c) = v := by rw [IntWalk.i64_in _ (by rw [hv.out]; exact bv)]; exact hv.out
  clear bu bv
  go_enter Try.func54, Try.ntmps54
  go_wp2
  refine ret_world (fun W => Below w.heap.size w W ∧ Blk W (w.heap.size + 1 + 1) 83 #[.int .i64 u, .int .i64 v]) ⟨(((Below.refl _ _).alloc (Nat.le_refl _) _).alloc (by simp) _).alloc (by simp; omega) _, blk_at (by simp)⟩ ?_
  rintro W ⟨hB, b0⟩
  obtain ⟨x0, x1, _, _⟩ := b0.facts2
  exact bodyPost_ret (v := .agg #[.int .i64 u, .int .i64 v]) (by simp [results, Try.results54, go_sem, x0, x1]) rfl ⟨rfl, hB⟩

set_option maxHeartbeats 1000000 in
theorem times_any (a b c d u v : Int) (w : World) (hu : Hid (a * c = u)) (hv : Hid (b * d = v)) (bu : -9223372036854775808 ≤ u ∧ u ≤ 9223372036854775807) (bv : -9223372036854775808 ≤ v ∧ v ≤ 9223372036854775807) :
    Calls Try.prog 52 #[.agg #[.int .i64 a, .int .i64 b], .agg #[.int .i64 c, .int .i64 d]] w fun e w' => e = .returned (.agg #[.int .i64 u, .int .i64 v]) ∧ Below w.heap.size w w' := by
  have w1 : IntKind.i64.wrap (a * c) = u := by rw [IntWalk.i64_in _ (by rw [hu.out]; exact bu)]; exact hu.out
  have w2 : IntKind.i64.wrap (b * d) = v := by rw [IntWalk.i64_in _ (by rw [hv.out]; exact bv)]; exact hv.out
  clear bu bv
  go_enter Try.func52, Try.ntmps52
  go_wp2
  refine ret_world (fun W => Below w.heap.size w W ∧ Blk W (w.heap.size + 1 + 1) 83 #[.int .i64 u, .int .i64 v]) ⟨(((Below.refl _ _).alloc (Nat.le_refl _) _).alloc (by simp) _).alloc (by simp; omega) _, blk_at (by simp)⟩ ?_
  rintro W ⟨hB, b0⟩
  obtain ⟨x0, x1, _, _⟩ := b0.facts2
  exact bodyPost_ret (v := .agg #[.int .i64 u, .int .i64 v]) (by simp [results, Try.results52, go_sem, x0, x1]) rfl ⟨rfl, hB⟩

set_option maxHeartbeats 2000000 in
theorem by_any (a b n u v : Int) (w : World) (hn : 0 < n) (ha : 0 ≤ a) (ha' : a ≤ 9223372036854775807) (hb : 0 ≤ b) (hb' : b + n ≤ 9223372036854775807) (hu : Hid (a / n = u)) (hv : Hid (upQ b n = v)) :
    Calls Try.prog 53 #[.agg #[.int .i64 a, .int .i64 b], .int .i64 n] w fun e w' => e = .returned (.agg #[.int .i64 u, .int .i64 v]) ∧ Below w.heap.size w w' := by
  have e1 : a.tdiv n = u := by rw [Int.tdiv_eq_ediv_of_nonneg ha]; exact hu.out
  have e2 := dn_bd hn ha
  rw [hu.out] at e2
  have w1 : IntKind.i64.wrap u = u := IntWalk.i64_in _ (by omega)
  have hup := Lib.hid fun W => up_any b n v W hb hn hb' hv
  have n0 : ¬ n = 0 := by omega
  have n1 : (n == 0) = false := by simpa using n0
  clear e2 ha hb hu hv
  go_enter Try.func53, Try.ntmps53
  go_upto_region 1 with fail
  refine wp_world (fun W => Below w.heap.size w W ∧ Blk W w.heap.size 83 #[.int .i64 a, .int .i64 b] ∧ Blk W (w.heap.size + 1) 83 #[.int .i64 0, .int .i64 0])
    ⟨((Below.refl _ _).alloc (Nat.le_refl _) _).alloc (by simp) _, (Blk.new _ _ _).alloc _, blk_at (by simp)⟩ ?_
  rintro W0 ⟨hB0, b0, b1⟩
  obtain ⟨x0, x1, _, _⟩ := b0.facts2
  have x0' := fun d os => cell_regrown x0 d os
  have x1' := fun d os => cell_regrown x1 d os
  refine wp_region_below_tail 9 (by kernel_rfl) (by kernel_rfl) ?_
  simp only [List.take_succ_cons, List.take_zero, List.drop_succ_cons, List.drop_zero]
  repeat (quiet_step (fail))
  quiet_step (first | (go_at_call 73; exact quiet_call (fun W1 _ => hup.out W1)))
  repeat (quiet_step (fail))
  refine wpQuiet_nil ?_
  intro _ hw'
  obtain ⟨⟨dq, osq⟩, hw''⟩ := hw'
  subst hw''
  have hb := below_regrown W0 dq osq
  replace b1 := b1.below hb b1.lt
  have hB := hB0.trans (hb.mono hB0.size)
  clear hb hB0 x0 x1 x0' x1' b0 hup
  generalize grow (redrawn W0 dq) osq = W1 at *
  obtain ⟨y0, y1, _, _⟩ := b1.facts2
  have n2 := b1.lt
  go_wp2
  refine ret_world (fun W => Below w.heap.size w W ∧ Blk W (w.heap.size + 1) 83 #[.int .i64 u, .int .i64 v]) ⟨belowp hB (by omega), b1.setp⟩ ?_
  clear y0 y1 b1 hB
  rintro W ⟨hB, b1⟩
  obtain ⟨y0, y1, _, _⟩ := b1.facts2
  exact bodyPost_ret (v := .agg #[.int .i64 u, .int .i64 v]) (by simp [results, Try.results53, go_sem, y0, y1]) rfl ⟨rfl, hB⟩

set_option maxHeartbeats 1000000 in
theorem covers_any (lo hi a b : Int) (w : World) : Calls Try.prog 62 #[.agg #[.int .i64 lo, .int .i64 hi], .agg #[.int .i64 a, .int .i64 b]] w (SomeBool (SpIn lo hi a b) w) := by
  by_cases c1 : lo ≤ a
  · have c1' : decide (lo ≤ a) = true := by simpa using c1
    by_cases c2 : a ≤ b
    · have c2' : decide (a ≤ b) = true := by simpa using c2
      by_cases c3 : b ≤ hi
      · have c3' : decide (b ≤ hi) = true := by simpa using c3
        have hf := Lib.hid (show SpIn lo hi a b from ⟨c1, c2, c3⟩)
        go_enter Try.func62, Try.ntmps62
        go_wp2
        go_ret
        exact SomeBool.yes hf.out (((Below.refl _ _).alloc (Nat.le_refl _) _).alloc (by simp) _)
      · have c3' : decide (b ≤ hi) = false := by simpa using c3
        have hf := Lib.hid (show ¬ SpIn lo hi a b from fun h => c3 h.2.2)
        go_enter Try.func62, Try.ntmps62
        go_wp2
        go_ret
        exact SomeBool.no hf.out (((Below.refl _ _).alloc (Nat.le_refl _) _).alloc (by simp) _)
    · have c2' : decide (a ≤ b) = false := by simpa using c2
      have hf := Lib.hid (show ¬ SpIn lo hi a b from fun h => c2 h.2.1)
      go_enter Try.func62, Try.ntmps62
      go_wp2
      go_ret
      exact SomeBool.no hf.out (((Below.refl _ _).alloc (Nat.le_refl _) _).alloc (by simp) _)
  · have c1' : decide (lo ≤ a) = false := by simpa using c1
    have hf := Lib.hid (show ¬ SpIn lo hi a b from fun h => c1 h.1)
    go_enter Try.func62, Try.ntmps62
    go_wp2
    go_ret
    exact SomeBool.no hf.out (((Below.refl _ _).alloc (Nat.le_refl _) _).alloc (by simp) _)
end Go.Proofs.Ytjcadgklamhohaa
