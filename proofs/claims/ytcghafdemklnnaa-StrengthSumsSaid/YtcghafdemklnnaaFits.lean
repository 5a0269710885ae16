/- validSpan, within, whole and fits. -/
import Derived.Test.YtcghafdemklnnaaRoom
namespace Go.Proofs.Ytcghafdemklnnaa
open Go.RowKit Go.Sort Go.Shelf

set_option maxHeartbeats 1000000 in
theorem validSpan_any (lo hi : Int) (w : World) :
    Calls Try.prog 54 #[.agg #[.int .i64 lo, .int .i64 hi]] w fun e w' => e = .returned (.bool (decide (lo ≤ hi))) ∧ Below w.heap.size w w' := by
  go_enter Try.func54, Try.ntmps54
  go_wp2
  go_ret
  exact ⟨rfl, (Below.refl _ _).alloc (Nat.le_refl _) _⟩

set_option maxHeartbeats 2000000 in
theorem within_any (lo hi a b : Int) (w : World) :
    Calls Try.prog 60 #[.agg #[.int .i64 lo, .int .i64 hi], .int .i64 a, .int .i64 b] w (SomeBool (lo ≤ hi ∧ a ≤ lo ∧ hi ≤ b) w) := by
  by_cases c1 : lo ≤ hi
  · have c1' : decide (lo ≤ hi) = true := by simpa using c1
    by_cases c2 : a ≤ lo
    · have c2' : decide (a ≤ lo) = true := by simpa using c2
      have hv := Lib.hid (validSpan_any lo hi)
      go_enter Try.func60, Try.ntmps60
      go_wp2_with fail
      refine (hv.out _).mono ?_
      rintro e w1 ⟨rfl, hb1⟩
      obtain ⟨x0, x1, _, _⟩ := ((Blk.new w 27 #[Value.int IntKind.i64 lo, Value.int IntKind.i64 hi]).below hb1 (by simp)).facts2
      have hB := ((Below.refl w.heap.size w).alloc (Nat.le_refl _) (Obj.cells #[Value.int IntKind.i64 lo, Value.int IntKind.i64 hi] 27)).trans (hb1.mono (by simp))
      by_cases c3 : hi ≤ b
      · have c3' : decide (hi ≤ b) = true := by simpa using c3
        go_wp2
        go_ret
        exact SomeBool.yes ⟨c1, c2, c3⟩ hB
      · have c3' : decide (hi ≤ b) = false := by simpa using c3
        go_wp2
        go_ret
        exact SomeBool.no (fun h => by omega) hB
    · have c2' : decide (a ≤ lo) = false := by simpa using c2
      have hv := Lib.hid (validSpan_any lo hi)
      go_enter Try.func60, Try.ntmps60
      go_wp2_with fail
      refine (hv.out _).mono ?_
      rintro e w1 ⟨rfl, hb1⟩
      obtain ⟨x0, x1, _, _⟩ := ((Blk.new w 27 #[Value.int IntKind.i64 lo, Value.int IntKind.i64 hi]).below hb1 (by simp)).facts2
      have hB := ((Below.refl w.heap.size w).alloc (Nat.le_refl _) (Obj.cells #[Value.int IntKind.i64 lo, Value.int IntKind.i64 hi] 27)).trans (hb1.mono (by simp))
      go_wp2
      go_ret
      exact SomeBool.no (fun h => by omega) hB
  · have c1' : decide (lo ≤ hi) = false := by simpa using c1
    have hv := Lib.hid (validSpan_any lo hi)
    go_enter Try.func60, Try.ntmps60
    go_wp2_with fail
    refine (hv.out _).mono ?_
    rintro e w1 ⟨rfl, hb1⟩
    have hB := ((Below.refl w.heap.size w).alloc (Nat.le_refl _) (Obj.cells #[Value.int IntKind.i64 lo, Value.int IntKind.i64 hi] 27)).trans (hb1.mono (by simp))
    go_wp2
    go_ret
    exact SomeBool.no (fun h => by omega) hB

set_option maxHeartbeats 2000000 in
set_option maxRecDepth 100000 in
theorem whole_any (b off cap : Nat) (xs : List Int) (w : World) (hlen : 1 ≤ xs.length) (hlen' : xs.length ≤ 1000) (hr : Row w b off xs) :
    Calls Try.prog 55 #[.slice (some ⟨b, off, none⟩) xs.length cap] w fun e w' => e = .returned (.agg #[.int .i64 (xs[0]?.getD 0), .int .i64 (xs[xs.length - 1]?.getD 0)]) ∧ Below w.heap.size w w' := by
  have hf := fun (p q : Int) (h1 : xs[0]?.getD 0 = p) (h2 : xs[xs.length - 1]?.getD 0 = q) => (show Ending.returned (.agg #[.int .i64 p, .int .i64 q]) = .returned (.agg #[.int .i64 (xs[0]?.getD 0), .int .i64 (xs[xs.length - 1]?.getD 0)]) from by rw [h1, h2])
  have x0 := hr.2 0 (by omega)
  have x1 := hr.2 (xs.length - 1) (by omega)
  generalize hp : xs[0]?.getD 0 = p at x0
  generalize hq : xs[xs.length - 1]?.getD 0 = q at x1
  replace hf := Lib.hid (hf p q hp hq)
  clear hp hq
  rw [Nat.add_zero] at x0
  go_enter Try.func55, Try.ntmps55
  go_wp2
  have hB : Below w.heap.size w (w.alloc (Obj.cells #[Value.int IntKind.i64 0, Value.int IntKind.i64 0] 27)) := (Below.refl _ _).alloc (Nat.le_refl _) _
  have b0 : Blk (w.alloc (Obj.cells #[Value.int IntKind.i64 0, Value.int IntKind.i64 0] 27)) w.heap.size 27 #[Value.int IntKind.i64 0, Value.int IntKind.i64 0] := Blk.new _ _ _
  generalize (w.alloc (Obj.cells #[Value.int IntKind.i64 0, Value.int IntKind.i64 0] 27)) = W0 at hB b0 ⊢
  have x0' := fun d os => cell_regrown (cell_later hB x0) d os
  have x1' := fun d os => cell_regrown (cell_later hB x1) d os
  have e1 : IntKind.i64.wrap ((xs.length : Int) - 1) = (xs.length : Int) - 1 := IntWalk.i64_in _ (by omega)
  have e2 : 0 ≤ (xs.length : Int) - 1 := by omega
  have e2' : 1 ≤ (xs.length : Int) := by omega
  have e3 : ((xs.length : Int) - 1).toNat = xs.length - 1 := by omega
  have e4 : (0 : Int) < (xs.length : Int) := by omega
  have e5 : (xs.length : Int) - 1 < xs.length := by omega
  have e6 : 0 < xs.length := by omega
  refine wp_region_below_tail 10 (by kernel_rfl) (by kernel_rfl) ?_
  simp only [List.take_succ_cons, List.take_zero, List.drop_succ_cons, List.drop_zero]
  repeat (quiet_step (fail))
  refine wpQuiet_nil ?_
  intro _ hw'
  obtain ⟨⟨dq, osq⟩, hw''⟩ := hw'
  subst hw''
  have hb2 := below_regrown W0 dq osq
  have b2 := b0.below hb2 b0.lt
  have hB2 : Below w.heap.size w (grow (redrawn W0 dq) osq) := hB.trans (hb2.mono hB.size)
  clear x0' x1' e1 e2 e2' e3 e4 e5 e6 hb2
  generalize grow (redrawn W0 dq) osq = W2 at b2 hB2 ⊢
  obtain ⟨k0, k1, k2, k3⟩ := b2.facts2
  go_wp2
  refine bodyPost_ret (v := .agg #[.int .i64 p, .int .i64 q]) (by simp [results, Try.results55, go_sem, k0, k1]) rfl ⟨(by first | rfl | exact hf.out), ?_⟩
  exact (hB2.setCell (by simp only; omega) _).setCell (by simp only; omega) _

set_option maxHeartbeats 2000000 in
set_option maxRecDepth 100000 in
theorem fits_any (lo hi : Int) (b off cap : Nat) (xs : List Int) (w : World) (hlen : 1 ≤ xs.length) (hlen' : xs.length ≤ 1000) (hr : Row w b off xs) :
    Calls Try.prog 49 #[.agg #[.int .i64 lo, .int .i64 hi], .slice (some ⟨b, off, none⟩) xs.length cap] w (SomeBool (lo ≤ hi ∧ xs[0]?.getD 0 ≤ lo ∧ hi ≤ xs[xs.length - 1]?.getD 0) w) := by
  have hwhole := fun W (hb : Below w.heap.size w W) => whole_any b off cap xs W hlen hlen' (hr.below hb)
  generalize xs[0]?.getD 0 = p at hwhole ⊢
  generalize xs[xs.length - 1]?.getD 0 = q at hwhole ⊢
  replace hwhole := Lib.hid hwhole
  have hwithin := Lib.hid (within_any lo hi p q)
  go_enter Try.func49, Try.ntmps49
  go_wp2_with fail
  have hB : Below w.heap.size w (w.alloc (Obj.cells #[Value.int IntKind.i64 lo, Value.int IntKind.i64 hi] 27)) := (Below.refl _ _).alloc (Nat.le_refl _) _
  have b0 : Blk (w.alloc (Obj.cells #[Value.int IntKind.i64 lo, Value.int IntKind.i64 hi] 27)) w.heap.size 27 #[Value.int IntKind.i64 lo, Value.int IntKind.i64 hi] := Blk.new _ _ _
  generalize (w.alloc (Obj.cells #[Value.int IntKind.i64 lo, Value.int IntKind.i64 hi] 27)) = W0 at hB b0 ⊢
  refine (hwhole.out W0 hB).mono ?_
  rintro e w1 ⟨rfl, hb1⟩
  have b1 := b0.below hb1 b0.lt
  have hB1 := hB.trans (hb1.mono hB.size)
  obtain ⟨k0, k1, _, _⟩ := b1.facts2
  have lt1 := b1.lt
  go_wp2_with fail
  refine (hwithin.out _).mono ?_
  rintro e w2 ⟨r, rfl, hr2, hb2⟩
  replace hr2 := Lib.hid hr2
  go_wp2
  go_ret
  exact ⟨r, rfl, hr2.out, (hB1.alloc hB1.size _).trans (hb2.mono (by have := hB1.size; simp; omega))⟩
end Go.Proofs.Ytcghafdemklnnaa
