/- What the methods of a span that is known return, or that they stop. -/
import Derived.Test.YtdadpfgcjffclaaSmall
namespace Go.Proofs.Ytdadpfgcjffclaa
open Go.RowKit Go.Sort
attribute [local go_sem] Oper.calm Oper.calmAt Oper.calmUpon

set_option maxHeartbeats 1000000 in
theorem plus_ok (a b c d : Int) (w : World) (h : a + c ≤ b + d) (h1 : 0 ≤ a + c) (h2 : b + d ≤ 9223372036854775807) :
    Calls Try.prog 71 #[.agg #[.int .i64 a, .int .i64 b], .agg #[.int .i64 c, .int .i64 d]] w fun e w' => e = .returned (.agg #[.int .i64 (a + c), .int .i64 (b + d)]) ∧ Below w.heap.size w w' := by
  have hk := Lib.hid fun W => know_ok (a + c) (b + d) W h
  go_enter Try.func71, Try.ntmps71
  go_wp2_with fail
  refine calls_world (fun W => Below w.heap.size w W ∧ Blk W (w.heap.size + 1 + 1) 73 #[.int .i64 0, .int .i64 0])
    ⟨(((Below.refl _ _).alloc (Nat.le_refl _) _).alloc (by simp) _).alloc (by simp; omega) _, blk_at (by simp)⟩ ?_
  rintro W0 ⟨hB0, b0⟩
  refine (hk.out _).mono ?_
  rintro e W1 ⟨rfl, hb1⟩
  have hB1 := hB0.trans (hb1.mono hB0.size)
  replace b0 := b0.below hb1 b0.lt
  clear hb1 hB0 hk
  obtain ⟨r0, r1, _, _⟩ := b0.facts2
  have n1 := b0.lt
  go_wp2_with fail
  refine bodyPost_ret (v := .agg #[.int .i64 (a + c), .int .i64 (b + d)]) (by simp [results, Try.results71, go_sem, r0, r1]) rfl ⟨rfl, ?_⟩
  exact (hB1.setCell (by simp only; omega) _).setCell (by simp only; omega) _

set_option maxHeartbeats 1000000 in
theorem share_any (a b x y n u v : Int) (w : World) (ha : 0 ≤ x * a) (hb : 0 ≤ y * b) (hn : 0 < n) (h1 : x * a + n ≤ 9223372036854775807) (h2 : y * b ≤ 9223372036854775807) (hu : Hid (upQ (x * a) n = u)) (hv : Hid (y * b / n = v)) :
    Calls Try.prog 73 #[.agg #[.int .i64 a, .int .i64 b], .agg #[.int .i64 x, .int .i64 y], .int .i64 n] w fun e w' => e = .returned (.tuple #[.int .i64 u, .int .i64 v]) ∧ Below w.heap.size w w' := by
  have hup := Lib.hid fun W => up_any (x * a) n u W ha hn h1 hu
  have hdn := Lib.hid fun W => down_any (y * b) n v W hb hn h2 hv
  go_enter Try.func73, Try.ntmps73
  go_upto_region 1 with fail
  refine wp_world (fun W => Below w.heap.size w W ∧ Blk W w.heap.size 73 #[.int .i64 a, .int .i64 b] ∧ Blk W (w.heap.size + 1) 73 #[.int .i64 x, .int .i64 y])
    ⟨((Below.refl _ _).alloc (Nat.le_refl _) _).alloc (by simp) _, (Blk.new _ _ _).alloc _, blk_at (by simp)⟩ ?_
  rintro W0 ⟨hB0, b0, b1⟩
  obtain ⟨x0, x1, _, _⟩ := b0.facts2
  obtain ⟨y0, y1, _, _⟩ := b1.facts2
  have x0' := fun d os => cell_regrown x0 d os
  have x1' := fun d os => cell_regrown x1 d os
  have y0' := fun d os => cell_regrown y0 d os
  have y1' := fun d os => cell_regrown y1 d os
  have hw1 : IntKind.i64.wrap (x * a) = x * a := IntWalk.i64_in _ (by omega)
  have hw2 : IntKind.i64.wrap (y * b) = y * b := IntWalk.i64_in _ (by omega)
  refine wp_region_quiet_below (by kernel_rfl) (by kernel_rfl) ?_
  repeat (quiet_step (first | (go_at_call 41; exact quiet_call (fun W1 _ => hup.out W1)) | (go_at_call 40; exact quiet_call (fun W1 _ => hdn.out W1))))
  refine wpQuiet_nil ?_
  intro _ hw'
  obtain ⟨⟨dq, osq⟩, hw''⟩ := hw'
  subst hw''
  have hB2 := hB0.trans ((below_regrown W0 dq osq).mono hB0.size)
  clear x0 x1 y0 y1 x0' x1' y0' y1' b0 b1
  generalize grow (redrawn W0 dq) osq = W2 at *
  go_wp2
  go_ret2
  exact ⟨rfl, hB2⟩

set_option maxHeartbeats 1000000 in
theorem atMost_ok (a b m u : Int) (w : World) (h : a ≤ min b m) (hu : Hid (min b m = u)) :
    Calls Try.prog 75 #[.agg #[.int .i64 a, .int .i64 b], .int .i64 m] w fun e w' => e = .returned (.agg #[.int .i64 a, .int .i64 u]) ∧ Below w.heap.size w w' := by
  have hk := Lib.hid fun W => know_ok a u W (by rw [← hu.out]; exact h)
  have hm : (if m < b then m else b) = u := by rw [← hu.out]; split <;> omega
  go_enter Try.func75, Try.ntmps75
  go_wp2_with fail
  refine calls_world (fun W => Below w.heap.size w W ∧ Blk W (w.heap.size + 1) 73 #[.int .i64 0, .int .i64 0])
    ⟨((Below.refl _ _).alloc (Nat.le_refl _) _).alloc (by simp) _, blk_at (by simp)⟩ ?_
  rintro W0 ⟨hB0, b0⟩
  refine (hk.out _).mono ?_
  rintro e W1 ⟨rfl, hb1⟩
  have hB1 := hB0.trans (hb1.mono hB0.size)
  replace b0 := b0.below hb1 b0.lt
  clear hb1 hB0 hk
  obtain ⟨r0, r1, _, _⟩ := b0.facts2
  have n1 := b0.lt
  go_wp2_with fail
  refine bodyPost_ret (v := .agg #[.int .i64 a, .int .i64 u]) (by simp [results, Try.results75, go_sem, r0, r1]) rfl ⟨rfl, ?_⟩
  exact (hB1.setCell (by simp only; omega) _).setCell (by simp only; omega) _

set_option maxHeartbeats 1000000 in
theorem atMost_bad (a b m : Int) (w : World) (h : min b m < a) :
    Calls Try.prog 75 #[.agg #[.int .i64 a, .int .i64 b], .int .i64 m] w fun e w' => e = .panicked stop ∧ Below w.heap.size w w' := by
  obtain ⟨u, hu⟩ : ∃ u, min b m = u := ⟨_, rfl⟩
  have hk := Lib.hid fun W => know_bad a u W (by rw [← hu]; exact h)
  have hm : (if m < b then m else b) = u := by rw [← hu]; split <;> omega
  clear hu
  go_enter Try.func75, Try.ntmps75
  go_wp2_with fail
  refine calls_world (fun W => Below w.heap.size w W)
    (((Below.refl _ _).alloc (Nat.le_refl _) _).alloc (by simp) _) ?_
  rintro W0 hB0
  refine (hk.out _).mono ?_
  rintro e W1 ⟨rfl, hb1⟩
  have hB1 := hB0.trans (hb1.mono hB0.size)
  go_wp2_with fail
  exact ⟨rfl, rfl, hB1⟩

set_option maxHeartbeats 1000000 in
theorem less_ok (a b c d u : Int) (w : World) (h : u ≤ b - c) (h1 : -4611686018427387904 ≤ a - d ∧ a - d ≤ 4611686018427387904) (h2 : -4611686018427387904 ≤ b - c ∧ b - c ≤ 4611686018427387904) (hu : Hid (max (a - d) 0 = u)) :
    Calls Try.prog 76 #[.agg #[.int .i64 a, .int .i64 b], .agg #[.int .i64 c, .int .i64 d]] w fun e w' => e = .returned (.agg #[.int .i64 u, .int .i64 (b - c)]) ∧ Below w.heap.size w w' := by
  have hk := Lib.hid fun W => know_ok u (b - c) W h
  have hm : (if a - d < 0 then 0 else a - d) = u := by rw [← hu.out]; split <;> omega
  have hm2 : (if 0 ≤ a - d then a - d else 0) = u := by rw [← hu.out]; split <;> omega
  go_enter Try.func76, Try.ntmps76
  go_wp2_with fail
  refine calls_world (fun W => Below w.heap.size w W ∧ Blk W (w.heap.size + 1 + 1) 73 #[.int .i64 0, .int .i64 0])
    ⟨(((Below.refl _ _).alloc (Nat.le_refl _) _).alloc (by simp) _).alloc (by simp; omega) _, blk_at (by simp)⟩ ?_
  rintro W0 ⟨hB0, b0⟩
  refine (hk.out _).mono ?_
  rintro e W1 ⟨rfl, hb1⟩
  have hB1 := hB0.trans (hb1.mono hB0.size)
  replace b0 := b0.below hb1 b0.lt
  clear hb1 hB0 hk
  obtain ⟨r0, r1, _, _⟩ := b0.facts2
  have n1 := b0.lt
  go_wp2_with fail
  refine bodyPost_ret (v := .agg #[.int .i64 u, .int .i64 (b - c)]) (by simp [results, Try.results76, go_sem, r0, r1]) rfl ⟨rfl, ?_⟩
  exact (hB1.setCell (by simp only; omega) _).setCell (by simp only; omega) _

set_option maxHeartbeats 1000000 in
theorem meets_ok (a b x y u v : Int) (w : World) (h : u ≤ v) (hu : Hid (max a x = u)) (hv : Hid (min b y = v)) :
    Calls Try.prog 80 #[.agg #[.int .i64 a, .int .i64 b], .int .i64 x, .int .i64 y] w fun e w' => e = .returned (.agg #[.int .i64 u, .int .i64 v]) ∧ Below w.heap.size w w' := by
  have hk := Lib.hid fun W => know_ok u v W h
  have hm : (if y < b then y else b) = v := by rw [← hv.out]; split <;> omega
  have hm1 : (if a < x then x else a) = u := by rw [← hu.out]; split <;> omega
  go_enter Try.func80, Try.ntmps80
  go_wp2_with fail
  refine calls_world (fun W => Below w.heap.size w W ∧ Blk W (w.heap.size + 1) 73 #[.int .i64 0, .int .i64 0])
    ⟨((Below.refl _ _).alloc (Nat.le_refl _) _).alloc (by simp) _, blk_at (by simp)⟩ ?_
  rintro W0 ⟨hB0, b0⟩
  refine (hk.out _).mono ?_
  rintro e W1 ⟨rfl, hb1⟩
  have hB1 := hB0.trans (hb1.mono hB0.size)
  replace b0 := b0.below hb1 b0.lt
  clear hb1 hB0 hk
  obtain ⟨r0, r1, _, _⟩ := b0.facts2
  have n1 := b0.lt
  go_wp2_with fail
  refine bodyPost_ret (v := .agg #[.int .i64 u, .int .i64 v]) (by simp [results, Try.results80, go_sem, r0, r1]) rfl ⟨rfl, ?_⟩
  exact (hB1.setCell (by simp only; omega) _).setCell (by simp only; omega) _

set_option maxHeartbeats 1000000 in
theorem meets_bad (a b x y : Int) (w : World) (h : min b y < max a x) :
    Calls Try.prog 80 #[.agg #[.int .i64 a, .int .i64 b], .int .i64 x, .int .i64 y] w fun e w' => e = .panicked stop ∧ Below w.heap.size w w' := by
  obtain ⟨u, hu⟩ : ∃ u, max a x = u := ⟨_, rfl⟩
  obtain ⟨v, hv⟩ : ∃ v, min b y = v := ⟨_, rfl⟩
  have hk := Lib.hid fun W => know_bad u v W (by rw [← hu, ← hv]; exact h)
  have hm : (if y < b then y else b) = v := by rw [← hv]; split <;> omega
  have hm1 : (if a < x then x else a) = u := by rw [← hu]; split <;> omega
  clear hu hv
  go_enter Try.func80, Try.ntmps80
  go_wp2_with fail
  refine calls_world (fun W => Below w.heap.size w W)
    (((Below.refl _ _).alloc (Nat.le_refl _) _).alloc (by simp) _) ?_
  rintro W0 hB0
  refine (hk.out _).mono ?_
  rintro e W1 ⟨rfl, hb1⟩
  have hB1 := hB0.trans (hb1.mono hB0.size)
  go_wp2_with fail
  exact ⟨rfl, rfl, hB1⟩
end Go.Proofs.Ytdadpfgcjffclaa
