/- tooMuch: whether any span behind a step goes too far. -/
import Derived.Test.YtdadpfgcjffclaaBase
import Derived.Test.YtdadpfgcjffclaaModel
import Derived.LoopN
namespace Go.Proofs.Ytdadpfgcjffclaa
open Go.RowKit Go.Sort

theorem rounds_world {P : Program} {c : Code} {Q : Exit → Act → World → Prop} {n : Nat} {a : Act} {w : World} (R : World → Prop) (hR : R w) (h : ∀ W, R W → Code.rounds P c Q n a W) : Code.rounds P c Q n a w := h w hR

set_option maxHeartbeats 4000000 in
set_option maxRecDepth 100000 in
theorem tooMuch_any (g : Gr) (w : World) : Calls Try.prog 57 #[.agg g.cells] w fun e w' => e = .returned (.bool (tooG g)) ∧ Below w.heap.size w w' := by
  obtain ⟨d1, d2, w1, w2, p1, p2, t1, t2, g1, g2, r1, r2, s1, s2⟩ := g
  simp only [Gr.cells]
  have hyes := Lib.hid (show ∀ b : Bool, tooG ⟨d1, d2, w1, w2, p1, p2, t1, t2, g1, g2, r1, r2, s1, s2⟩ = b → ∀ W, Below w.heap.size w W → (Ending.returned (.bool b) = .returned (.bool (tooG ⟨d1, d2, w1, w2, p1, p2, t1, t2, g1, g2, r1, r2, s1, s2⟩)) ∧ Below w.heap.size w W) from fun b hb W hB => ⟨by rw [hb], hB⟩)
  have hix0 : ∀ w : World, (Instr.index 107 (.agg #[.int .i64 d1, .int .i64 d2, .int .i64 w1, .int .i64 w2, .int .i64 p1, .int .i64 p2, .int .i64 t1, .int .i64 t2, .int .i64 g1, .int .i64 g2, .int .i64 r1, .int .i64 r2, .int .i64 s1, .int .i64 s2]) (.int .i64 0)).run Try.prog w = .ok (.agg #[.int .i64 d1, .int .i64 d2]) w := fun _ => rfl
  have hix1 : ∀ w : World, (Instr.index 107 (.agg #[.int .i64 d1, .int .i64 d2, .int .i64 w1, .int .i64 w2, .int .i64 p1, .int .i64 p2, .int .i64 t1, .int .i64 t2, .int .i64 g1, .int .i64 g2, .int .i64 r1, .int .i64 r2, .int .i64 s1, .int .i64 s2]) (.int .i64 1)).run Try.prog w = .ok (.agg #[.int .i64 w1, .int .i64 w2]) w := fun _ => rfl
  have hix2 : ∀ w : World, (Instr.index 107 (.agg #[.int .i64 d1, .int .i64 d2, .int .i64 w1, .int .i64 w2, .int .i64 p1, .int .i64 p2, .int .i64 t1, .int .i64 t2, .int .i64 g1, .int .i64 g2, .int .i64 r1, .int .i64 r2, .int .i64 s1, .int .i64 s2]) (.int .i64 2)).run Try.prog w = .ok (.agg #[.int .i64 p1, .int .i64 p2]) w := fun _ => rfl
  have hix3 : ∀ w : World, (Instr.index 107 (.agg #[.int .i64 d1, .int .i64 d2, .int .i64 w1, .int .i64 w2, .int .i64 p1, .int .i64 p2, .int .i64 t1, .int .i64 t2, .int .i64 g1, .int .i64 g2, .int .i64 r1, .int .i64 r2, .int .i64 s1, .int .i64 s2]) (.int .i64 3)).run Try.prog w = .ok (.agg #[.int .i64 t1, .int .i64 t2]) w := fun _ => rfl
  have hix4 : ∀ w : World, (Instr.index 107 (.agg #[.int .i64 d1, .int .i64 d2, .int .i64 w1, .int .i64 w2, .int .i64 p1, .int .i64 p2, .int .i64 t1, .int .i64 t2, .int .i64 g1, .int .i64 g2, .int .i64 r1, .int .i64 r2, .int .i64 s1, .int .i64 s2]) (.int .i64 4)).run Try.prog w = .ok (.agg #[.int .i64 g1, .int .i64 g2]) w := fun _ => rfl
  have hix5 : ∀ w : World, (Instr.index 107 (.agg #[.int .i64 d1, .int .i64 d2, .int .i64 w1, .int .i64 w2, .int .i64 p1, .int .i64 p2, .int .i64 t1, .int .i64 t2, .int .i64 g1, .int .i64 g2, .int .i64 r1, .int .i64 r2, .int .i64 s1, .int .i64 s2]) (.int .i64 5)).run Try.prog w = .ok (.agg #[.int .i64 r1, .int .i64 r2]) w := fun _ => rfl
  have hix6 : ∀ w : World, (Instr.index 107 (.agg #[.int .i64 d1, .int .i64 d2, .int .i64 w1, .int .i64 w2, .int .i64 p1, .int .i64 p2, .int .i64 t1, .int .i64 t2, .int .i64 g1, .int .i64 g2, .int .i64 r1, .int .i64 r2, .int .i64 s1, .int .i64 s2]) (.int .i64 6)).run Try.prog w = .ok (.agg #[.int .i64 s1, .int .i64 s2]) w := fun _ => rfl
  go_enter Try.func57, Try.ntmps57
  go_wp2
  refine wp_loop_rounds 8 ?_
  refine rounds_world (fun W => Below w.heap.size w W) ((Below.refl _ _).alloc (Nat.le_refl _) _) ?_
  intro W0 hB0
  by_cases c0 : 1099511627776 < d2
  · have c0' : decide (1099511627776 < d2) = true := by simpa using c0
    replace hyes := Lib.hid (hyes.out true (by simp [tooG, c0]))
    rw [rounds_succ]
    go_wp2
    go_ret
    exact hyes.out _ (hB0.alloc hB0.size _)
  have c0' : decide (1099511627776 < d2) = false := by simpa using c0
  rw [rounds_succ]
  go_wp2
  refine rounds_world (fun W => Below w.heap.size w W) (hB0.alloc hB0.size _) ?_
  clear hB0
  intro W1 hB1
  by_cases c1 : 1099511627776 < w2
  · have c1' : decide (1099511627776 < w2) = true := by simpa using c1
    replace hyes := Lib.hid (hyes.out true (by simp [tooG, c1]))
    rw [rounds_succ]
    go_wp2
    go_ret
    exact hyes.out _ (hB1.alloc hB1.size _)
  have c1' : decide (1099511627776 < w2) = false := by simpa using c1
  rw [rounds_succ]
  go_wp2
  refine rounds_world (fun W => Below w.heap.size w W) (hB1.alloc hB1.size _) ?_
  clear hB1
  intro W2 hB2
  by_cases c2 : 1099511627776 < p2
  · have c2' : decide (1099511627776 < p2) = true := by simpa using c2
    replace hyes := Lib.hid (hyes.out true (by simp [tooG, c2]))
    rw [rounds_succ]
    go_wp2
    go_ret
    exact hyes.out _ (hB2.alloc hB2.size _)
  have c2' : decide (1099511627776 < p2) = false := by simpa using c2
  rw [rounds_succ]
  go_wp2
  refine rounds_world (fun W => Below w.heap.size w W) (hB2.alloc hB2.size _) ?_
  clear hB2
  intro W3 hB3
  by_cases c3 : 1099511627776 < t2
  · have c3' : decide (1099511627776 < t2) = true := by simpa using c3
    replace hyes := Lib.hid (hyes.out true (by simp [tooG, c3]))
    rw [rounds_succ]
    go_wp2
    go_ret
    exact hyes.out _ (hB3.alloc hB3.size _)
  have c3' : decide (1099511627776 < t2) = false := by simpa using c3
  rw [rounds_succ]
  go_wp2
  refine rounds_world (fun W => Below w.heap.size w W) (hB3.alloc hB3.size _) ?_
  clear hB3
  intro W4 hB4
  by_cases c4 : 1099511627776 < g2
  · have c4' : decide (1099511627776 < g2) = true := by simpa using c4
    replace hyes := Lib.hid (hyes.out true (by simp [tooG, c4]))
    rw [rounds_succ]
    go_wp2
    go_ret
    exact hyes.out _ (hB4.alloc hB4.size _)
  have c4' : decide (1099511627776 < g2) = false := by simpa using c4
  rw [rounds_succ]
  go_wp2
  refine rounds_world (fun W => Below w.heap.size w W) (hB4.alloc hB4.size _) ?_
  clear hB4
  intro W5 hB5
  by_cases c5 : 1099511627776 < r2
  · have c5' : decide (1099511627776 < r2) = true := by simpa using c5
    replace hyes := Lib.hid (hyes.out true (by simp [tooG, c5]))
    rw [rounds_succ]
    go_wp2
    go_ret
    exact hyes.out _ (hB5.alloc hB5.size _)
  have c5' : decide (1099511627776 < r2) = false := by simpa using c5
  rw [rounds_succ]
  go_wp2
  refine rounds_world (fun W => Below w.heap.size w W) (hB5.alloc hB5.size _) ?_
  clear hB5
  intro W6 hB6
  by_cases c6 : 1099511627776 < s2
  · have c6' : decide (1099511627776 < s2) = true := by simpa using c6
    replace hyes := Lib.hid (hyes.out true (by simp [tooG, c6]))
    rw [rounds_succ]
    go_wp2
    go_ret
    exact hyes.out _ (hB6.alloc hB6.size _)
  have c6' : decide (1099511627776 < s2) = false := by simpa using c6
  rw [rounds_succ]
  go_wp2
  refine rounds_world (fun W => Below w.heap.size w W) (hB6.alloc hB6.size _) ?_
  clear hB6
  intro W7 hB7
  replace hyes := Lib.hid (hyes.out false (by simp [tooG, c0, c1, c2, c3, c4, c5, c6]))
  rw [rounds_succ]
  go_wp2
  go_ret
  exact hyes.out _ hB7
end Go.Proofs.Ytdadpfgcjffclaa
