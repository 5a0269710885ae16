/- within, validStep, validMalt: whether spans, steps, malt are valid. -/
import Derived.Test.YtdadpfgcjffclaaBase
import Derived.Test.YtdadpfgcjffclaaModel
namespace Go.Proofs.Ytdadpfgcjffclaa
open Go.RowKit Go.Sort
attribute [local go_sem] Oper.calm Oper.calmAt Oper.calmUpon

set_option maxHeartbeats 1000000 in
theorem within_any (lo hi m : Int) (w : World) : Calls Try.prog 54 #[.agg #[.int .i64 lo, .int .i64 hi], .int .i64 m] w (SomeBool (SpOk lo hi m) w) := by
  by_cases c1 : 0 ≤ lo
  · have c1' : decide (0 ≤ lo) = true := by simpa using c1
    by_cases c2 : lo ≤ hi
    · have c2' : decide (lo ≤ hi) = true := by simpa using c2
      by_cases c3 : hi ≤ m
      · have c3' : decide (hi ≤ m) = true := by simpa using c3
        have hf := Lib.hid (show SpOk lo hi m from ⟨c1, c2, c3⟩)
        go_enter Try.func54, Try.ntmps54
        go_wp2
        go_ret
        exact SomeBool.yes hf.out ((Below.refl _ _).alloc (Nat.le_refl _) _)
      · have c3' : decide (hi ≤ m) = false := by simpa using c3
        have hf := Lib.hid (show ¬ SpOk lo hi m from fun h => c3 h.2.2)
        go_enter Try.func54, Try.ntmps54
        go_wp2
        go_ret
        exact SomeBool.no hf.out ((Below.refl _ _).alloc (Nat.le_refl _) _)
    · have c2' : decide (lo ≤ hi) = false := by simpa using c2
      have hf := Lib.hid (show ¬ SpOk lo hi m from fun h => c2 h.2.1)
      go_enter Try.func54, Try.ntmps54
      go_wp2
      go_ret
      exact SomeBool.no hf.out ((Below.refl _ _).alloc (Nat.le_refl _) _)
  · have c1' : decide (0 ≤ lo) = false := by simpa using c1
    have hf := Lib.hid (show ¬ SpOk lo hi m from fun h => c1 h.1)
    go_enter Try.func54, Try.ntmps54
    go_wp2
    go_ret
    exact SomeBool.no hf.out ((Below.refl _ _).alloc (Nat.le_refl _) _)

theorem SomeBool.trans {p q : Prop} {w w1 : World} (h : p ↔ q) {e : Ending} {w' : World} (hb : Below w.heap.size w w1) (hh : SomeBool q w1 e w') : SomeBool p w e w' := by
  obtain ⟨r, h1, h2, h3⟩ := hh
  exact ⟨r, h1, h2.trans h.symm, hb.trans (h3.mono hb.size)⟩

set_option maxHeartbeats 2000000 in
theorem validStep_any (k x y : Int) (w : World) : Calls Try.prog 55 #[.agg #[.int .i64 k, .int .i64 x, .int .i64 y]] w (SomeBool (StepOk k x y) w) := by
  have key : ∀ m, 0 ≤ k → k ≤ 5 → mostOf k = m → ∀ W1 e W2, Below w.heap.size w W1 → SomeBool (SpOk x y m) W1 e W2 → SomeBool (StepOk k x y) w e W2 := fun m h0 h5 hm W1 e W2 hb hh =>
    SomeBool.trans ⟨fun h => hm ▸ h.2.2, fun h => ⟨h0, h5, hm ▸ h⟩⟩ hb hh
  replace key := Lib.hid key
  have hwi := Lib.hid fun m W => within_any x y m W
  by_cases hk : k = 0 ∨ k = 4 ∨ k = 5 ∨ k = 1 ∨ k = 2 ∨ k = 3
  · rcases hk with rfl | rfl | rfl | rfl | rfl | rfl
    all_goals
      replace key := Lib.hid (key.out _ (by omega) (by omega) rfl)
      go_enter Try.func55, Try.ntmps55
      go_wp2_with fail
      refine (hwi.out _ _).mono ?_
      rintro e W1 ⟨r, rfl, hr, hb⟩
      replace hr := Lib.hid hr
      go_wp2_with fail
      go_ret
      exact key.out _ _ _ ((Below.refl _ _).alloc (Nat.le_refl _) _) ⟨r, rfl, hr.out, hb⟩
  · have hn := Lib.hid (show ¬ StepOk k x y from fun h => by have := h.1; have := h.2.1; omega)
    have n0 : (k == 0) = false := by simp; omega
    have n1 : (k == 1) = false := by simp; omega
    have n2 : (k == 2) = false := by simp; omega
    have n3 : (k == 3) = false := by simp; omega
    have n4 : (k == 4) = false := by simp; omega
    have n5 : (k == 5) = false := by simp; omega
    clear hk key
    go_enter Try.func55, Try.ntmps55
    go_wp2_with fail
    go_ret
    exact SomeBool.no hn.out ((Below.refl _ _).alloc (Nat.le_refl _) _)

/-- what is known of malt are amounts -/
def MaltOk (d1 d2 w1 w2 p1 p2 : Int) : Prop := SpOk d1 d2 1099511627776 ∧ SpOk w1 w2 1099511627776 ∧ SpOk p1 p2 1099511627776
set_option maxHeartbeats 2000000 in
theorem validMalt_any (d1 d2 w1 w2 p1 p2 : Int) (w : World) : Calls Try.prog 34 #[.agg #[.int .i64 d1, .int .i64 d2, .int .i64 w1, .int .i64 w2, .int .i64 p1, .int .i64 p2]] w (SomeBool (MaltOk d1 d2 w1 w2 p1 p2) w) := by
  have h1 := Lib.hid fun W => within_any d1 d2 1099511627776 W
  have h2 := Lib.hid fun W => within_any w1 w2 1099511627776 W
  have h3 := Lib.hid fun W => within_any p1 p2 1099511627776 W
  go_enter Try.func34, Try.ntmps34
  go_wp2_with fail
  refine calls_world (fun W => Below w.heap.size w W ∧ Blk W w.heap.size 25 #[.int .i64 d1, .int .i64 d2, .int .i64 w1, .int .i64 w2, .int .i64 p1, .int .i64 p2]) ⟨(Below.refl _ _).alloc (Nat.le_refl _) _, Blk.new _ _ _⟩ ?_
  rintro W0 ⟨hB0, b0⟩
  refine (h1.out _).mono ?_
  rintro e W1 ⟨r, rfl, hr, hb1⟩
  have hB1 := hB0.trans (hb1.mono hB0.size)
  replace b0 := b0.below hb1 b0.lt
  have x2 : _ = some _ := b0.cell 2
  have x3 : _ = some _ := b0.cell 3
  clear hb1 hB0 h1
  cases r with
  | false =>
    replace hr := Lib.hid (fun h => Bool.noConfusion (hr.2 h) : ¬ _)
    go_wp2
    go_ret
    exact SomeBool.no (fun h => hr.out h.1) hB1
  | true =>
    replace hr := Lib.hid (hr.1 rfl)
    go_wp2_with fail
    refine (h2.out _).mono ?_
    rintro e W2 ⟨q, rfl, hq, hb2⟩
    have hB2 := hB1.trans (hb2.mono hB1.size)
    replace b0 := b0.below hb2 b0.lt
    clear hb2 hB1 h2 x2 x3
    have x4 : _ = some _ := b0.cell 4
    have x5 : _ = some _ := b0.cell 5
    cases q with
    | false =>
      replace hq := Lib.hid (fun h => Bool.noConfusion (hq.2 h) : ¬ _)
      go_wp2
      go_ret
      exact SomeBool.no (fun h => hq.out h.2.1) hB2
    | true =>
      replace hq := Lib.hid (hq.1 rfl)
      go_wp2_with fail
      refine (h3.out _).mono ?_
      rintro e W3 ⟨s, rfl, hs, hb3⟩
      have hB3 := hB2.trans (hb3.mono hB2.size)
      replace hs := Lib.hid hs
      go_wp2
      go_ret
      exact ⟨s, rfl, ⟨fun h => ⟨hr.out, hq.out, hs.out.1 h⟩, fun h => hs.out.2 h.2.2⟩, hB3⟩
end Go.Proofs.Ytdadpfgcjffclaa
