/- done, for a step of kind 5. -/
import Derived.Test.YtdadpfgcjffclaaDone
namespace Go.Proofs.Ytdadpfgcjffclaa
open Go.RowKit Go.Sort
attribute [local go_sem] Oper.calm Oper.calmAt Oper.calmUpon

set_option maxHeartbeats 4000000 in
set_option maxRecDepth 100000 in
theorem done_ok5 (d1 d2 w1 w2 p1 p2 t1 t2 g1 g2 r1 r2 s1 s2 x y : Int) (h : Gr) (w : World) (hxy : x ≤ y)
    (hd : Hid (∀ W, Calls Try.prog 79 #[.agg #[.int .i64 d1, .int .i64 d2, .int .i64 w1, .int .i64 w2, .int .i64 p1, .int .i64 p2, .int .i64 t1, .int .i64 t2, .int .i64 g1, .int .i64 g2, .int .i64 r1, .int .i64 r2, .int .i64 s1, .int .i64 s2], .agg #[.int .i64 x, .int .i64 y]] W fun e w' => e = .returned (.agg h.cells) ∧ Below W.heap.size W w')) :
    Calls Try.prog 56 #[.agg #[.int .i64 d1, .int .i64 d2, .int .i64 w1, .int .i64 w2, .int .i64 p1, .int .i64 p2, .int .i64 t1, .int .i64 t2, .int .i64 g1, .int .i64 g2, .int .i64 r1, .int .i64 r2, .int .i64 s1, .int .i64 s2], .agg #[.int .i64 5, .int .i64 x, .int .i64 y]] w fun e w' => e = .returned (.tuple #[.agg h.cells, .int .i64 0]) ∧ Below w.heap.size w w' := by
  obtain ⟨hd1, hd2, hw1, hw2, hp1, hp2, ht1, ht2, hg1, hg2, hr1, hr2, hs1, hs2⟩ := h
  simp only [Gr.cells] at hd ⊢
  have k0 := Lib.hid doings_any
  have k1 := Lib.hid fun W => know_ok x y W hxy
  have hmf : ∀ (fn : Fn) (first cap : Array Value) (w : World), (Instr.makeFunc fn first cap).run Try.prog w = .ok (.func fn first cap) w := fun _ _ _ _ => rfl
  have hix : ∀ w : World, (Instr.index 104 (.agg #[.func (.func 70) #[] #[], .func (.func 72) #[] #[], .func (.func 74) #[] #[], .func (.func 77) #[] #[], .func (.func 78) #[] #[], .func (.func 79) #[] #[]]) (.int .i64 5)).run Try.prog w = .ok (.func (.func 79) #[] #[]) w := fun _ => rfl
  go_enter_defers Try.func56, Try.ntmps56
  go_upto_region 2 with fail
  refine wp_world (fun W => Below w.heap.size w W ∧ Blk W w.heap.size 75 #[.int .i64 d1, .int .i64 d2, .int .i64 w1, .int .i64 w2, .int .i64 p1, .int .i64 p2, .int .i64 t1, .int .i64 t2, .int .i64 g1, .int .i64 g2, .int .i64 r1, .int .i64 r2, .int .i64 s1, .int .i64 s2] ∧ Blk W (w.heap.size + 1) 54 #[.int .i64 5, .int .i64 x, .int .i64 y] ∧ Blk W (w.heap.size + 1 + 1) 75 #[.int .i64 0, .int .i64 0, .int .i64 0, .int .i64 0, .int .i64 0, .int .i64 0, .int .i64 0, .int .i64 0, .int .i64 0, .int .i64 0, .int .i64 0, .int .i64 0, .int .i64 0, .int .i64 0] ∧ Blk W (w.heap.size + 1 + 1 + 1) 30 #[.int .i64 0])
    ⟨((((Below.refl _ _).alloc (Nat.le_refl _) _).alloc (by simp) _).alloc (by simp; omega) _).alloc (by simp; omega) _, (((Blk.new _ _ _).alloc _).alloc _).alloc _, ((blk_at (by simp)).alloc _).alloc _, (blk_at (by simp)).alloc _, blk_at (by simp)⟩ ?_
  clear hmf
  rintro W0 ⟨hB0, b0, b1, b2, b3⟩
  obtain ⟨c0, c1, c2, c3, c4, c5, c6, c7, c8, c9, c10, c11, c12, c13⟩ := b0.facts14
  obtain ⟨e0, e1, e2, _, _, _⟩ := b1.facts3
  have c0' := fun d os => cell_regrown c0 d os
  have c1' := fun d os => cell_regrown c1 d os
  have c2' := fun d os => cell_regrown c2 d os
  have c3' := fun d os => cell_regrown c3 d os
  have c4' := fun d os => cell_regrown c4 d os
  have c5' := fun d os => cell_regrown c5 d os
  have c6' := fun d os => cell_regrown c6 d os
  have c7' := fun d os => cell_regrown c7 d os
  have c8' := fun d os => cell_regrown c8 d os
  have c9' := fun d os => cell_regrown c9 d os
  have c10' := fun d os => cell_regrown c10 d os
  have c11' := fun d os => cell_regrown c11 d os
  have c12' := fun d os => cell_regrown c12 d os
  have c13' := fun d os => cell_regrown c13 d os
  have e0' := fun d os => cell_regrown e0 d os
  have e1' := fun d os => cell_regrown e1 d os
  have e2' := fun d os => cell_regrown e2 d os
  refine wp_region_below_tail 11 (by kernel_rfl) (by kernel_rfl) ?_
  simp only [List.take_succ_cons, List.take_zero, List.drop_succ_cons, List.drop_zero]
  quiet_step (first | (go_at_call 65; exact quiet_call (fun W1 _ => k0.out W1)))
  repeat (quiet_step (fail))
  quiet_step (first | (go_at_call 66; exact quiet_call (fun W1 _ => k1.out W1)))
  repeat (quiet_step (fail))
  quiet_step (first | (go_at_call 79; exact quiet_call (fun W1 _ => hd.out W1)))
  repeat (quiet_step (fail))
  refine wpQuiet_nil ?_
  intro _ hw'
  obtain ⟨⟨dq, osq⟩, hw''⟩ := hw'
  subst hw''
  have hb := below_regrown W0 dq osq
  replace b2 := b2.below hb b2.lt
  replace b3 := b3.below hb b3.lt
  have hB := hB0.trans (hb.mono hB0.size)
  clear hb hB0 b0 b1 e0 e1 e2 e0' e1' e2' c0 c1 c2 c3 c4 c5 c6 c7 c8 c9 c10 c11 c12 c13 c0' c1' c2' c3' c4' c5' c6' c7' c8' c9' c10' c11' c12' c13' k0 k1 hd
  generalize grow (redrawn W0 dq) osq = W1 at *
  obtain ⟨c0, c1, c2, c3, c4, c5, c6, c7, c8, c9, c10, c11, c12, c13⟩ := b2.facts14
  obtain ⟨f0, f1, f2, f3, f4, f5, f6, f7, f8, f9, f10, f11, f12, f13⟩ := b2.frozen14
  obtain ⟨e0, g0⟩ := b3.facts1
  go_wp2
  refine door_world (fun W => Below w.heap.size w W ∧ Blk W (w.heap.size + 1 + 1) 75 #[.int .i64 hd1, .int .i64 hd2, .int .i64 hw1, .int .i64 hw2, .int .i64 hp1, .int .i64 hp2, .int .i64 ht1, .int .i64 ht2, .int .i64 hg1, .int .i64 hg2, .int .i64 hr1, .int .i64 hr2, .int .i64 hs1, .int .i64 hs2] ∧ Blk W (w.heap.size + 1 + 1 + 1) 30 #[.int .i64 0])
    ⟨(below14 hB (by omega)).setCell (by simp only; omega) _, (b2.sets14).far (by simp only; omega) _, (Blk.far14 b3 (by omega)).set_ 0 _⟩ ?_
  clear hB b2 b3 e0 g0 c0 c1 c2 c3 c4 c5 c6 c7 c8 c9 c10 c11 c12 c13 f0 f1 f2 f3 f4 f5 f6 f7 f8 f9 f10 f11 f12 f13
  rintro W ⟨hB, b2, b3⟩
  obtain ⟨c0, c1, c2, c3, c4, c5, c6, c7, c8, c9, c10, c11, c12, c13⟩ := b2.facts14
  obtain ⟨e0, _⟩ := b3.facts1
  refine leaves_cons (f := 64) (args := #[.pointer (some ⟨w.heap.size + 1 + 1, 0, none⟩), .pointer (some ⟨w.heap.size + 1 + 1 + 1, 0, none⟩)]) (by simp) (by simp [go_sem]) ?_
  refine (catch_idle _ _ _).mono ?_
  rintro e u' w'' ⟨rfl, rfl, rfl⟩
  exact ⟨.tuple #[.agg #[.int .i64 hd1, .int .i64 hd2, .int .i64 hw1, .int .i64 hw2, .int .i64 hp1, .int .i64 hp2, .int .i64 ht1, .int .i64 ht2, .int .i64 hg1, .int .i64 hg2, .int .i64 hr1, .int .i64 hr2, .int .i64 hs1, .int .i64 hs2], .int .i64 0], by simp [results, Try.results56, go_sem, e0, c0, c1, c2, c3, c4, c5, c6, c7, c8, c9, c10, c11, c12, c13], rfl, hB⟩

set_option maxHeartbeats 4000000 in
set_option maxRecDepth 100000 in
theorem done_bad5 (d1 d2 w1 w2 p1 p2 t1 t2 g1 g2 r1 r2 s1 s2 x y : Int) (w : World) (hxy : x ≤ y)
    (hd : Hid (∀ W, Calls Try.prog 79 #[.agg #[.int .i64 d1, .int .i64 d2, .int .i64 w1, .int .i64 w2, .int .i64 p1, .int .i64 p2, .int .i64 t1, .int .i64 t2, .int .i64 g1, .int .i64 g2, .int .i64 r1, .int .i64 r2, .int .i64 s1, .int .i64 s2], .agg #[.int .i64 x, .int .i64 y]] W fun e w' => e = .panicked stop ∧ Below W.heap.size W w')) :
    Calls Try.prog 56 #[.agg #[.int .i64 d1, .int .i64 d2, .int .i64 w1, .int .i64 w2, .int .i64 p1, .int .i64 p2, .int .i64 t1, .int .i64 t2, .int .i64 g1, .int .i64 g2, .int .i64 r1, .int .i64 r2, .int .i64 s1, .int .i64 s2], .agg #[.int .i64 5, .int .i64 x, .int .i64 y]] w fun e w' => e = .returned (.tuple #[.agg zero14, .int .i64 4]) ∧ Below w.heap.size w w' := by
  have k0 := Lib.hid doings_any
  have k1 := Lib.hid fun W => know_ok x y W hxy
  have hmf : ∀ (fn : Fn) (first cap : Array Value) (w : World), (Instr.makeFunc fn first cap).run Try.prog w = .ok (.func fn first cap) w := fun _ _ _ _ => rfl
  have hix : ∀ w : World, (Instr.index 104 (.agg #[.func (.func 70) #[] #[], .func (.func 72) #[] #[], .func (.func 74) #[] #[], .func (.func 77) #[] #[], .func (.func 78) #[] #[], .func (.func 79) #[] #[]]) (.int .i64 5)).run Try.prog w = .ok (.func (.func 79) #[] #[]) w := fun _ => rfl
  go_enter_defers Try.func56, Try.ntmps56
  go_upto_region 2 with fail
  refine wp_world (fun W => Below w.heap.size w W ∧ Blk W w.heap.size 75 #[.int .i64 d1, .int .i64 d2, .int .i64 w1, .int .i64 w2, .int .i64 p1, .int .i64 p2, .int .i64 t1, .int .i64 t2, .int .i64 g1, .int .i64 g2, .int .i64 r1, .int .i64 r2, .int .i64 s1, .int .i64 s2] ∧ Blk W (w.heap.size + 1) 54 #[.int .i64 5, .int .i64 x, .int .i64 y] ∧ Blk W (w.heap.size + 1 + 1) 75 #[.int .i64 0, .int .i64 0, .int .i64 0, .int .i64 0, .int .i64 0, .int .i64 0, .int .i64 0, .int .i64 0, .int .i64 0, .int .i64 0, .int .i64 0, .int .i64 0, .int .i64 0, .int .i64 0] ∧ Blk W (w.heap.size + 1 + 1 + 1) 30 #[.int .i64 0])
    ⟨((((Below.refl _ _).alloc (Nat.le_refl _) _).alloc (by simp) _).alloc (by simp; omega) _).alloc (by simp; omega) _, (((Blk.new _ _ _).alloc _).alloc _).alloc _, ((blk_at (by simp)).alloc _).alloc _, (blk_at (by simp)).alloc _, blk_at (by simp)⟩ ?_
  clear hmf
  rintro W0 ⟨hB0, b0, b1, b2, b3⟩
  obtain ⟨c0, c1, c2, c3, c4, c5, c6, c7, c8, c9, c10, c11, c12, c13⟩ := b0.facts14
  obtain ⟨e0, e1, e2, _, _, _⟩ := b1.facts3
  have c0' := fun d os => cell_regrown c0 d os
  have c1' := fun d os => cell_regrown c1 d os
  have c2' := fun d os => cell_regrown c2 d os
  have c3' := fun d os => cell_regrown c3 d os
  have c4' := fun d os => cell_regrown c4 d os
  have c5' := fun d os => cell_regrown c5 d os
  have c6' := fun d os => cell_regrown c6 d os
  have c7' := fun d os => cell_regrown c7 d os
  have c8' := fun d os => cell_regrown c8 d os
  have c9' := fun d os => cell_regrown c9 d os
  have c10' := fun d os => cell_regrown c10 d os
  have c11' := fun d os => cell_regrown c11 d os
  have c12' := fun d os => cell_regrown c12 d os
  have c13' := fun d os => cell_regrown c13 d os
  have e0' := fun d os => cell_regrown e0 d os
  have e1' := fun d os => cell_regrown e1 d os
  have e2' := fun d os => cell_regrown e2 d os
  refine wp_region_die_keep 11 10 stop 4 5 (by kernel_rfl) (by kernel_rfl) (by omega) (by kernel_rfl) ?_ ?_
  · rintro a' w' ⟨h1, h2, h3⟩ hb
    replace b2 := b2.below hb b2.lt
    replace b3 := b3.below hb b3.lt
    have hB := hB0.trans (hb.mono hB0.size)
    change Leaves _ _ a'.tmps _ a'.defers (.panicking stop) w'
    rw [h1]
    refine leaves_cons (f := 64) (args := #[.pointer (some ⟨w.heap.size + 1 + 1, 0, none⟩), .pointer (some ⟨w.heap.size + 1 + 1 + 1, 0, none⟩)]) (by simp) (by simp [go_sem]) ?_
    refine (catch_panicking _ _ _ _ _ [] _ b2 b3 (by omega)).mono ?_
    rintro e u' w'' ⟨rfl, rfl, rfl⟩
    replace hB := (below14 (v0 := .int .i64 0) (v1 := .int .i64 0) (v2 := .int .i64 0) (v3 := .int .i64 0) (v4 := .int .i64 0) (v5 := .int .i64 0) (v6 := .int .i64 0) (v7 := .int .i64 0) (v8 := .int .i64 0) (v9 := .int .i64 0) (v10 := .int .i64 0) (v11 := .int .i64 0) (v12 := .int .i64 0) (v13 := .int .i64 0) hB (show w.heap.size ≤ w.heap.size + 1 + 1 by omega)).setCell (p := ⟨w.heap.size + 1 + 1 + 1, 0, none⟩) (by simp only; omega) (.int .i64 4)
    have b2' := (Blk.sets14 (v0 := .int .i64 0) (v1 := .int .i64 0) (v2 := .int .i64 0) (v3 := .int .i64 0) (v4 := .int .i64 0) (v5 := .int .i64 0) (v6 := .int .i64 0) (v7 := .int .i64 0) (v8 := .int .i64 0) (v9 := .int .i64 0) (v10 := .int .i64 0) (v11 := .int .i64 0) (v12 := .int .i64 0) (v13 := .int .i64 0) b2).far (p := ⟨w.heap.size + 1 + 1 + 1, 0, none⟩) (by simp only; omega) (.int .i64 4)
    have b3' := (Blk.far14 (v0 := .int .i64 0) (v1 := .int .i64 0) (v2 := .int .i64 0) (v3 := .int .i64 0) (v4 := .int .i64 0) (v5 := .int .i64 0) (v6 := .int .i64 0) (v7 := .int .i64 0) (v8 := .int .i64 0) (v9 := .int .i64 0) (v10 := .int .i64 0) (v11 := .int .i64 0) (v12 := .int .i64 0) (v13 := .int .i64 0) b3 (show w.heap.size + 1 + 1 + 1 ≠ w.heap.size + 1 + 1 by omega)).set_ 0 (.int .i64 4)
    generalize (sets14 w' (w.heap.size + 1 + 1) (.int .i64 0) (.int .i64 0) (.int .i64 0) (.int .i64 0) (.int .i64 0) (.int .i64 0) (.int .i64 0) (.int .i64 0) (.int .i64 0) (.int .i64 0) (.int .i64 0) (.int .i64 0) (.int .i64 0) (.int .i64 0)).setCell ⟨w.heap.size + 1 + 1 + 1, 0, none⟩ (.int .i64 4) = W2 at *
    clear c0 c1 c2 c3 c4 c5 c6 c7 c8 c9 c10 c11 c12 c13 e0 b2 b3
    obtain ⟨c0, c1, c2, c3, c4, c5, c6, c7, c8, c9, c10, c11, c12, c13⟩ := b2'.facts14
    have e0 : _ = some _ := b3'.cell 0
    simp only [List.getElem?_toArray, List.getElem?_cons_succ, List.getElem?_cons_zero] at h2 h3
    refine ⟨.tuple #[.agg zero14, .int .i64 4], ?_, rfl, hB⟩
    simp [results, zero14, Try.results56, go_sem, h2, h3, e0, c0, c1, c2, c3, c4, c5, c6, c7, c8, c9, c10, c11, c12, c13]
  · simp only [List.take_succ_cons, List.take_zero]
    (refine wpDie_step (by rfl) (fun K hK => ?_); go_simp; first | (refine hK _ ?_; clear hK K) | (apply Exists.intro; refine ⟨fun _ => ?_, hK _ ?_⟩; (first | (go_at_call 65; exact calm_call (fun W1 _ => k0.out W1))); clear hK K))
    repeat (refine wpDie_step (by rfl) (fun K hK => ?_); go_simp; first | (refine hK _ ?_; clear hK K) | (apply Exists.intro; refine ⟨fun _ => ?_, hK _ ?_⟩; (fail); clear hK K))
    (refine wpDie_step (by rfl) (fun K hK => ?_); go_simp; first | (refine hK _ ?_; clear hK K) | (apply Exists.intro; refine ⟨fun _ => ?_, hK _ ?_⟩; (first | (go_at_call 66; exact calm_call (fun W1 _ => k1.out W1))); clear hK K))
    repeat (refine wpDie_step (by rfl) (fun K hK => ?_); go_simp; first | (refine hK _ ?_; clear hK K) | (apply Exists.intro; refine ⟨fun _ => ?_, hK _ ?_⟩; (fail); clear hK K))
    refine wpDie_here (.agg zero14) (by rfl) (fun w' hw' => ?_) (wpDie_nil trivial)
    obtain ⟨⟨dq, osq⟩, hw''⟩ := hw'
    subst hw''
    refine ⟨_, _, ?_, die_call (fun W1 _ => hd.out W1)⟩
    first | rfl | simp [go_sem]
end Go.Proofs.Ytdadpfgcjffclaa
