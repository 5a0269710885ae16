/- The closure that is deferred: it leaves all as it is, or catches an error and makes the results what they are then. -/
import Derived.Test.YtnfahoomoelmcaaSyDraws
import Derived.RecoverIn
import Derived.RangeFuncLeaves
import Derived.Recover
import Derived.Laws.Pointers
import Derived.Laws.EntriesVeiled
namespace Go.Proofs.Ytnfahoomoelmcaa
open Go.RowKit Go.Proofs.Try

set_option maxRecDepth 100000 in
theorem ta_nil (w : World) : (Instr.typeAssert .nilIface 20 32 true).run prog w = .ok (.tuple #[.int .i64 0, .bool false]) w := by kernel_rfl
set_option maxRecDepth 100000 in
theorem ta_err (k : Int) (w : World) : (Instr.typeAssert (.iface 32 (.int .i64 k)) 20 32 true).run prog w = .ok (.tuple #[.int .i64 k, .bool true]) w := by kernel_rfl
set_option maxRecDepth 100000 in
set_option maxHeartbeats 1000000 in
theorem catch_idle (n p0 p1 p2 : Nat) (w : World) :
    CallsDIn (FW none) n prog 71 #[.pointer (some ⟨p0, 0, none⟩), .pointer (some ⟨p1, 0, none⟩), .pointer (some ⟨p2, 0, none⟩)] .returning w fun e u' w' => e = .returned (.tuple #[]) ∧ u' = .returning ∧ w' = w := by
  refine callsDIn_of_wpSIn func71 rfl trivial fun c₀ cs hu => ?_
  apply wpSIn_seq
  apply wpSIn_region
  simp [wpOpsSIn, go_sem, recoverD, hu, ntmps71, Exit.thenS, ta_nil, Result.andThen]
  apply wpSIn_seq
  apply wpSIn_region
  simp [wpOpsSIn, go_sem, Exit.thenS]
  refine wpSIn_cond (t := false) (by simp [Act.eval, Array.replicate]) ?_
  simp only [Bool.false_eq_true, if_false]
  refine wpSIn_of_wpIn rfl ((wpIn_wide (n := n)).2 (wp_skip ?_))
  cases c₀
  simp_all [bodyPostS, results, f71]

abbrev catchCB (p0 p1 p2 : Nat) (v0 x0 x1 x2 y0 : Value) : List CB := [⟨1000, p0, 39, [.v v0]⟩, ⟨1001, p1, 29, [.v x0, .v x1, .v x2]⟩, ⟨1002, p2, 32, [.v y0]⟩]
set_option maxRecDepth 100000 in
set_option maxHeartbeats 1000000 in
theorem catch_die (n p0 p1 p2 : Nat) (v0 x0 x1 x2 y0 : Value) (k : Int) (w : World) (b0 : Blk w p0 39 #[v0]) (b1 : Blk w p1 29 #[x0, x1, x2]) (b2 : Blk w p2 32 #[y0]) (n01 : p0 ≠ p1) (n02 : p0 ≠ p2) (n12 : p1 ≠ p2) (o0 : v0.oneCell' = true) (o1 : x0.oneCell' = true ∧ x1.oneCell' = true ∧ x2.oneCell' = true) (o2 : y0.oneCell' = true) :
    CallsDIn (FW none) n prog 71 #[.pointer (some ⟨p0, 0, none⟩), .pointer (some ⟨p1, 0, none⟩), .pointer (some ⟨p2, 0, none⟩)] (.panicking (dieOf k)) w fun e u' w' => e = .returned (.tuple #[]) ∧ u' = .panicking [{ v := .iface 32 (.int .i64 k), recovered := true }] ∧
      Kept (fun k => k = p0 ∨ k = p1 ∨ k = p2) w w' ∧ Blk w' p0 39 #[.slice none 0 0] ∧ Blk w' p1 29 #[.int .i64 0, .int .i64 0, .int .i64 0] ∧ Blk w' p2 32 #[.int .i64 k] := by
  refine callsDIn_of_wpSIn func71 rfl trivial fun c₀ cs hu => ?_
  apply wpSIn_seq
  apply wpSIn_region
  simp [wpOpsSIn, go_sem, recoverD, hu, ntmps71, Exit.thenS, ta_err, Result.andThen]
  apply wpSIn_seq
  apply wpSIn_region
  simp [wpOpsSIn, go_sem, Exit.thenS]
  refine wpSIn_cond (t := true) (by simp [Act.eval, Array.replicate]) ?_
  simp only [if_true]
  refine wpSIn_of_wpIn rfl ((wpIn_wide (n := n)).2 ?_)
  have hA : ApartCB (catchCB p0 p1 p2 v0 x0 x1 x2 y0) := ⟨⟨n01, n02, trivial⟩, ⟨n12, trivial⟩, trivial, trivial⟩
  refine sym_last lay_ok mixed [] [] [1000, 1001, 1002] (⟨[], ⟨[(1000, .blk 39 [.v (.slice none 0 0)]), (1001, .blk 29 [.v (.int .i64 0), .v (.int .i64 0), .v (.int .i64 0)]), (1002, .blk 32 [.v (.int .i64 k)])], [], []⟩⟩) [] (St.make (catchCB p0 p1 p2 v0 x0 x1 x2 y0) (slots := [(0, .own 1000 0), (1, .own 1001 0), (2, .own 1002 0), (3, .v (.int .i64 k))]) (n := 13) ?_ ?_ ?_ ⟨b0, b1, b2, trivial⟩ hA) (by kernel_rfl) (by kernel_rfl) (by kernel_rfl) trivial fun E a' w' S => ?_
  · refine ⟨?_, ?_, ?_, ?_, trivial⟩ <;> simp [SV.val, envC, rhoOf, catchCB, Array.replicate] <;> rfl
  · simp
  · rfl
  · have c0 := S.mem.blk 1000 _ _ rfl
    have c1 := S.mem.blk 1001 _ _ rfl
    have c2 := S.mem.blk 1002 _ _ rfl
    rw [S.pin.1 1000 (by decide)] at c0
    rw [S.pin.1 1001 (by decide)] at c1
    rw [S.pin.1 1002 (by decide)] at c2
    have hk : Kept (fun k => k = p0 ∨ k = p1 ∨ k = p2) w w' := S.kept.mono fun k _ h => by
      obtain ⟨x, hx, rfl⟩ := h
      simp only [catchCB, List.mem_cons, List.not_mem_nil, or_false] at hx
      rcases hx with rfl | rfl | rfl
      · exact .inl rfl
      · exact .inr (.inl rfl)
      · exact .inr (.inr rfl)
    refine ⟨S.defers, .panicking [{ v := .iface 32 (.int .i64 k), recovered := true }], ?_, .tuple #[], ?_, rfl, rfl, hk, c0, c1, c2⟩
    · cases c₀
      simp_all [dieOf]
    · simp [results, f71, go_sem]
end Go.Proofs.Ytnfahoomoelmcaa
