/- done: what is known behind a valid step, or that this step cannot be: the closure that is deferred, with recover, and the table of the doings. -/
import Derived.Test.YtdadpfgcjffclaaDoes
import Derived.Defers
import Derived.Recover
import Derived.Laws.Pointers
import Derived.Laws.EntriesVeiled
namespace Go.Proofs.Ytdadpfgcjffclaa
open Go.RowKit Go.Sort
attribute [local go_sem] Oper.calm Oper.calmAt Oper.calmUpon

set_option maxHeartbeats 1000000 in
theorem doings_any (w : World) : Calls Try.prog 65 #[] w fun e w' => e = .returned (.agg #[.func (.func 70) #[] #[], .func (.func 72) #[] #[], .func (.func 74) #[] #[], .func (.func 77) #[] #[], .func (.func 78) #[] #[], .func (.func 79) #[] #[]]) ∧ Below w.heap.size w w' := by
  go_enter Try.func65, Try.ntmps65
  go_wp2
  refine ret_world (fun W => Below w.heap.size w W ∧ Blk W w.heap.size 104 #[.func (.func 70) #[] #[], .func (.func 72) #[] #[], .func (.func 74) #[] #[], .func (.func 77) #[] #[], .func (.func 78) #[] #[], .func (.func 79) #[] #[]]) ⟨(Below.refl _ _).alloc (Nat.le_refl _) _, Blk.new _ _ _⟩ ?_
  rintro W ⟨hB, b0⟩
  have x0 : _ = some _ := b0.cell 0
  have x1 : _ = some _ := b0.cell 1
  have x2 : _ = some _ := b0.cell 2
  have x3 : _ = some _ := b0.cell 3
  have x4 : _ = some _ := b0.cell 4
  have x5 : _ = some _ := b0.cell 5
  exact bodyPost_ret (v := .agg #[.func (.func 70) #[] #[], .func (.func 72) #[] #[], .func (.func 74) #[] #[], .func (.func 77) #[] #[], .func (.func 78) #[] #[], .func (.func 79) #[] #[]]) (by simp [results, Try.results65, go_sem, x0, x1, x2, x3, x4, x5]) rfl ⟨rfl, hB⟩

def zero14 : Array Value := #[.int .i64 0, .int .i64 0, .int .i64 0, .int .i64 0, .int .i64 0, .int .i64 0, .int .i64 0, .int .i64 0, .int .i64 0, .int .i64 0, .int .i64 0, .int .i64 0, .int .i64 0, .int .i64 0]

set_option maxHeartbeats 1000000 in
theorem catch_panicking (p q : Nat) (x : Value) (u : TypeId) (pv : Value) (older : List PanicEntry) (w : World) (h : Blk w p 75 zero14) (h' : Blk w q 30 #[x]) (hpq : p ≠ q) :
    CallsD Try.prog 64 #[.pointer (some ⟨p, 0, none⟩), .pointer (some ⟨q, 0, none⟩)] (.panicking ({ v := .iface u pv, recovered := false } :: older)) w fun e u' w' =>
      e = .returned (.tuple #[]) ∧ u' = .panicking ({ v := .iface u pv, recovered := true } :: older) ∧ w' = (sets14 w p (.int .i64 0) (.int .i64 0) (.int .i64 0) (.int .i64 0) (.int .i64 0) (.int .i64 0) (.int .i64 0) (.int .i64 0) (.int .i64 0) (.int .i64 0) (.int .i64 0) (.int .i64 0) (.int .i64 0) (.int .i64 0)).setCell ⟨q, 0, none⟩ (.int .i64 4) := by
  obtain ⟨c0, c1, c2, c3, c4, c5, c6, c7, c8, c9, c10, c11, c12, c13⟩ := Blk.facts14 h
  obtain ⟨f0, f1, f2, f3, f4, f5, f6, f7, f8, f9, f10, f11, f12, f13⟩ := Blk.frozen14 h
  obtain ⟨e0, g0⟩ := Blk.facts1 h'
  have hqp := hpq.symm
  refine callsD_of_wpS Try.func64 rfl fun c₀ cs hu => ?_
  apply wpS_seq
  apply wpS_region
  simp [wpOpsS, go_sem, recoverD, hu, Try.ntmps64, Exit.thenS]
  refine wpS_cond (t := true) (by simp [Act.eval, Array.replicate]) ?_
  simp only [if_true]
  apply wpS_region
  simp [wpOpsS, go_sem, c0, c1, c2, c3, c4, c5, c6, c7, c8, c9, c10, c11, c12, c13, f0, f1, f2, f3, f4, f5, f6, f7, f8, f9, f10, f11, f12, f13, e0, g0, bodyPostS, results, Try.results64]
  rfl

set_option maxHeartbeats 1000000 in
theorem catch_idle (p q : Addr) (w : World) :
    CallsD Try.prog 64 #[.pointer (some p), .pointer (some q)] .returning w fun e u' w' => e = .returned (.tuple #[]) ∧ u' = .returning ∧ w' = w := by
  refine callsD_of_wpS Try.func64 rfl fun c₀ cs hu => ?_
  apply wpS_seq
  apply wpS_region
  simp [wpOpsS, go_sem, recoverD, hu, Try.ntmps64, Exit.thenS]
  refine wpS_cond (t := false) (by simp [Act.eval, Array.replicate]) ?_
  simp only [Bool.false_eq_true, if_false]
  refine wpS_of_wp (wp_skip ?_)
  cases c₀
  simp_all [bodyPostS, results, Try.results64]

theorem door_world {P : Program} {fn : Func} {Post : Ending → World → Prop} {x : Exit} {a : Act} {w : World} (R : World → Prop) (hR : R w) (h : ∀ W, R W → bodyPostD P fn Post x a W) : bodyPostD P fn Post x a w := h w hR
end Go.Proofs.Ytdadpfgcjffclaa
