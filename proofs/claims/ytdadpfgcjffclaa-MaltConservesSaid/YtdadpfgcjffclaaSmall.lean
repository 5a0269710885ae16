/- up, down, know, within, minuteLater, validMill. -/
import Derived.Test.YtdadpfgcjffclaaBase
import Derived.Test.YtdadpfgcjffclaaDustMath
namespace Go.Proofs.Ytdadpfgcjffclaa
open Go.RowKit Go.Sort
attribute [local go_sem] Oper.calm Oper.calmAt Oper.calmUpon

set_option maxHeartbeats 1000000 in
theorem up_any (a b u : Int) (w : World) (ha : 0 ≤ a) (hb : 0 < b) (hab : a + b ≤ 9223372036854775807) (hu : Hid (upQ a b = u)) :
    Calls Try.prog 41 #[.int .i64 a, .int .i64 b] w fun e w' => e = .returned (.int .i64 u) ∧ Below w.heap.size w w' := by
  have e1 : (a + b - 1).tdiv b = u := by rw [Int.tdiv_eq_ediv_of_nonneg (by omega)]; exact hu.out
  have e2 := @upQ_bd a b hb ha
  rw [hu.out] at e2
  go_enter Try.func41, Try.ntmps41
  go_wp2
  go_ret
  exact ⟨rfl, Below.refl _ _⟩

set_option maxHeartbeats 1000000 in
theorem down_any (a b u : Int) (w : World) (ha : 0 ≤ a) (hb : 0 < b) (ha' : a ≤ 9223372036854775807) (hu : Hid (a / b = u)) :
    Calls Try.prog 40 #[.int .i64 a, .int .i64 b] w fun e w' => e = .returned (.int .i64 u) ∧ Below w.heap.size w w' := by
  have e1 : a.tdiv b = u := by rw [Int.tdiv_eq_ediv_of_nonneg (by omega)]; exact hu.out
  have e2 : 0 ≤ a / b := Int.ediv_nonneg ha (by omega)
  have e3 : a / b ≤ a := Int.ediv_le_self _ ha
  rw [hu.out] at e2 e3
  go_enter Try.func40, Try.ntmps40
  go_wp2
  go_ret
  exact ⟨rfl, Below.refl _ _⟩

set_option maxHeartbeats 1000000 in
theorem know_ok (a b : Int) (w : World) (h : a ≤ b) :
    Calls Try.prog 66 #[.int .i64 a, .int .i64 b] w fun e w' => e = .returned (.agg #[.int .i64 a, .int .i64 b]) ∧ Below w.heap.size w w' := by
  have h' : decide (b < a) = false := by simpa using h
  go_enter Try.func66, Try.ntmps66
  go_wp2
  refine ret_world (fun W => Below w.heap.size w W ∧ Blk W w.heap.size 73 #[.int .i64 a, .int .i64 b]) ⟨(Below.refl _ _).alloc (Nat.le_refl _) _, Blk.new _ _ _⟩ ?_
  rintro W ⟨hB, b0⟩
  obtain ⟨x0, x1, _, _⟩ := b0.facts2
  exact bodyPost_ret (v := .agg #[.int .i64 a, .int .i64 b]) (by simp [results, Try.results66, go_sem, x0, x1]) rfl ⟨rfl, hB⟩

set_option maxHeartbeats 1000000 in
theorem know_bad (a b : Int) (w : World) (h : b < a) :
    Calls Try.prog 66 #[.int .i64 a, .int .i64 b] w fun e w' => e = .panicked stop ∧ Below w.heap.size w w' := by
  have h' : decide (b < a) = true := by simpa using h
  go_enter Try.func66, Try.ntmps66
  go_wp2
  exact ⟨rfl, rfl, (Below.refl _ _).alloc (Nat.le_refl _) _⟩
end Go.Proofs.Ytdadpfgcjffclaa
