/- The table of the document's example. -/
import Derived.Test.YtcghafdemklnnaaMixed
namespace Go.Proofs.Ytcghafdemklnnaa
open Go.RowKit Go.Sort

def exT : List Int := [100, 200, 300]
def exS : List Int := [0, 5000, 10000]
def exSh : List (List Int) := [[-100, 4600, 9700], [0, 5000, 10000], [200, 5500, 10200]]
def exRm : List (List Int) := [[999000, 992000, 990000], [1000000, 1000000, 1000000], [1002000, 1009000, 1012000]]

theorem row_blk {w : World} {b : Nat} {t : TypeId} {xs : List Int} (h : Blk w b t (xs.map (Value.int .i64)).toArray) : Row w b 0 xs := by
  refine ⟨h.lt, fun j hj => ?_⟩
  rw [Nat.zero_add, h.cell j]
  simp [List.getElem?_eq_getElem hj]
theorem ints_blk {w : World} {b n : Nat} {t : TypeId} {xs : List Int} (hn : xs.length = n) (h : Blk w b t (xs.map (Value.int .i64)).toArray) : IntsAt w (some ⟨b, 0, none⟩) n xs :=
  ⟨hn, fun _ => ⟨b, 0, rfl, row_blk h⟩⟩

/-- where the example's table lies -/
def exTab (b0 b1 b2 b3 : Nat) : Value := .agg #[.slice (some ⟨b0, 0, none⟩) 3 3, .slice (some ⟨b1, 0, none⟩) 3 3, .slice (some ⟨b2, 0, none⟩) 3 3, .slice (some ⟨b3, 0, none⟩) 3 3]

set_option maxHeartbeats 2000000 in
set_option maxRecDepth 100000 in
theorem sample_any (w : World) :
    Calls Try.prog 32 #[] w fun e w' => ∃ b0 b1 b2 b3, e = .returned (exTab b0 b1 b2 b3) ∧ TableAt w' (some ⟨b0, 0, none⟩) (some ⟨b1, 0, none⟩) (some ⟨b2, 0, none⟩) (some ⟨b3, 0, none⟩) exT exS exSh exRm ∧ Below w.heap.size w w' := by
  go_enter Try.func32, Try.ntmps32
  go_wp2
  refine ret_world (fun W => Below w.heap.size w W ∧ Blk W (w.heap.size) 25 #[.slice (some ⟨w.heap.size + 1, 0, none⟩) 3 3, .slice (some ⟨w.heap.size + 1 + 1, 0, none⟩) 3 3, .slice (some ⟨w.heap.size + 1 + 1 + 1 + 1 + 1 + 1, 0, none⟩) 3 3, .slice (some ⟨w.heap.size + 1 + 1 + 1 + 1 + 1 + 1 + 1 + 1 + 1 + 1, 0, none⟩) 3 3] ∧ Blk W (w.heap.size + 1) 3 #[.int .i64 100, .int .i64 200, .int .i64 300] ∧ Blk W (w.heap.size + 1 + 1) 3 #[.int .i64 0, .int .i64 5000, .int .i64 10000] ∧ Blk W (w.heap.size + 1 + 1 + 1) 3 #[.int .i64 (-100), .int .i64 4600, .int .i64 9700] ∧ Blk W (w.heap.size + 1 + 1 + 1 + 1) 3 #[.int .i64 0, .int .i64 5000, .int .i64 10000] ∧ Blk W (w.heap.size + 1 + 1 + 1 + 1 + 1) 3 #[.int .i64 200, .int .i64 5500, .int .i64 10200] ∧ Blk W (w.heap.size + 1 + 1 + 1 + 1 + 1 + 1) 22 #[.slice (some ⟨w.heap.size + 1 + 1 + 1, 0, none⟩) 3 3, .slice (some ⟨w.heap.size + 1 + 1 + 1 + 1, 0, none⟩) 3 3, .slice (some ⟨w.heap.size + 1 + 1 + 1 + 1 + 1, 0, none⟩) 3 3] ∧ Blk W (w.heap.size + 1 + 1 + 1 + 1 + 1 + 1 + 1) 3 #[.int .i64 999000, .int .i64 992000, .int .i64 990000] ∧ Blk W (w.heap.size + 1 + 1 + 1 + 1 + 1 + 1 + 1 + 1) 3 #[.int .i64 1000000, .int .i64 1000000, .int .i64 1000000] ∧ Blk W (w.heap.size + 1 + 1 + 1 + 1 + 1 + 1 + 1 + 1 + 1) 3 #[.int .i64 1002000, .int .i64 1009000, .int .i64 1012000] ∧ Blk W (w.heap.size + 1 + 1 + 1 + 1 + 1 + 1 + 1 + 1 + 1 + 1) 22 #[.slice (some ⟨w.heap.size + 1 + 1 + 1 + 1 + 1 + 1 + 1, 0, none⟩) 3 3, .slice (some ⟨w.heap.size + 1 + 1 + 1 + 1 + 1 + 1 + 1 + 1, 0, none⟩) 3 3, .slice (some ⟨w.heap.size + 1 + 1 + 1 + 1 + 1 + 1 + 1 + 1 + 1, 0, none⟩) 3 3])
    ⟨(((((((((((Below.refl _ _).alloc (Nat.le_refl _) _).alloc (by simp; try omega) _).alloc (by simp; try omega) _).alloc (by simp; try omega) _).alloc (by simp; try omega) _).alloc (by simp; try omega) _).alloc (by simp; try omega) _).alloc (by simp; try omega) _).alloc (by simp; try omega) _).alloc (by simp; try omega) _).alloc (by simp; try omega) _, ((((((((((blk_at rfl).alloc _).alloc _).alloc _).alloc _).alloc _).alloc _).alloc _).alloc _).alloc _).alloc _, (((((((((blk_at (by simp)).alloc _).alloc _).alloc _).alloc _).alloc _).alloc _).alloc _).alloc _).alloc _, ((((((((blk_at (by simp)).alloc _).alloc _).alloc _).alloc _).alloc _).alloc _).alloc _).alloc _, (((((((blk_at (by simp)).alloc _).alloc _).alloc _).alloc _).alloc _).alloc _).alloc _, ((((((blk_at (by simp)).alloc _).alloc _).alloc _).alloc _).alloc _).alloc _, (((((blk_at (by simp)).alloc _).alloc _).alloc _).alloc _).alloc _, ((((blk_at (by simp)).alloc _).alloc _).alloc _).alloc _, (((blk_at (by simp)).alloc _).alloc _).alloc _, ((blk_at (by simp)).alloc _).alloc _, (blk_at (by simp)).alloc _, blk_at (by simp)⟩ ?_
  rintro W ⟨hB, k0, k1, k2, k3, k4, k5, k6, k7, k8, k9, k10⟩
  obtain ⟨x0, x1, x2, x3, _, _, _, _⟩ := k0.facts4
  refine bodyPost_ret (v := exTab (w.heap.size + 1) (w.heap.size + 1 + 1) (w.heap.size + 1 + 1 + 1 + 1 + 1 + 1) (w.heap.size + 1 + 1 + 1 + 1 + 1 + 1 + 1 + 1 + 1 + 1)) (by simp [results, Try.results32, go_sem, x0, x1, x2, x3, exTab]) rfl ⟨_, _, _, _, rfl, ?_, hB⟩
  have i1 : IntsAt W (some ⟨w.heap.size + 1, 0, none⟩) 3 exT := ints_blk (t := 3) rfl k1
  have i2 : IntsAt W (some ⟨w.heap.size + 1 + 1, 0, none⟩) 3 exS := ints_blk (t := 3) rfl k2
  refine ⟨i1, i2, ⟨rfl, fun _ => ⟨_, _, rfl, k6.lt⟩, ?_⟩, ⟨rfl, fun _ => ⟨_, _, rfl, k10.lt⟩, ?_⟩, by decide, by decide, by decide, by decide, ?_, ?_⟩
  · rintro b off hA i hi
    cases hA
    change i < 3 at hi
    have hi' : i = 0 ∨ i = 1 ∨ i = 2 := by omega
    rcases hi' with rfl | rfl | rfl
    · exact ⟨_, _, k6.cell 0, ints_blk (t := 3) rfl k3⟩
    · exact ⟨_, _, k6.cell 1, ints_blk (t := 3) rfl k4⟩
    · exact ⟨_, _, k6.cell 2, ints_blk (t := 3) rfl k5⟩
  · rintro b off hA i hi
    cases hA
    change i < 3 at hi
    have hi' : i = 0 ∨ i = 1 ∨ i = 2 := by omega
    rcases hi' with rfl | rfl | rfl
    · exact ⟨_, _, k10.cell 0, ints_blk (t := 3) rfl k7⟩
    · exact ⟨_, _, k10.cell 1, ints_blk (t := 3) rfl k8⟩
    · exact ⟨_, _, k10.cell 2, ints_blk (t := 3) rfl k9⟩
  · intro i
    match i with
    | 0 => decide
    | 1 => decide
    | 2 => decide
    | i + 3 => simp [exSh]
  · intro i
    match i with
    | 0 => decide
    | 1 => decide
    | 2 => decide
    | i + 3 => simp [exRm]
end Go.Proofs.Ytcghafdemklnnaa
