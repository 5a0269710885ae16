/- spansFit, validVat: whether a vat is valid. -/
import Derived.Test.YtjcadgklamhohaaAll
namespace Go.Proofs.Ytjcadgklamhohaa
open Go.RowKit Go.Sort
attribute [local go_sem] Oper.calm Oper.calmAt Oper.calmUpon

theorem SomeBool.is_true {p : Prop} (h : p) {w w' : World} {e : Ending} (k : SomeBool p w e w') : e = .returned (.bool true) ∧ Below w.heap.size w w' := by
  obtain ⟨r, rfl, h1, h2⟩ := k
  rw [h1.2 h]
  exact ⟨rfl, h2⟩
theorem SomeBool.is_false {p : Prop} (h : ¬ p) {w w' : World} {e : Ending} (k : SomeBool p w e w') : e = .returned (.bool false) ∧ Below w.heap.size w w' := by
  obtain ⟨r, rfl, h1, h2⟩ := k
  cases r with
  | false => exact ⟨rfl, h2⟩
  | true => exact absurd (h1.1 rfl) h

/-- the first five spans of a vat -/
def amounts (v : VatV) : List (Int × Int) := [(v.s1, v.s2), (v.e1, v.e2), (v.p1, v.p2), (v.g1, v.g2), (v.o1, v.o2)]
theorem amounts_ok {v : VatV} : AllIn 0 1073741824 (amounts v) ↔ SpIn 0 1073741824 v.s1 v.s2 ∧ SpIn 0 1073741824 v.e1 v.e2 ∧ SpIn 0 1073741824 v.p1 v.p2 ∧ SpIn 0 1073741824 v.g1 v.g2 ∧ SpIn 0 1073741824 v.o1 v.o2 := by
  constructor
  · intro h
    exact ⟨h 0 (by simp [amounts]), h 1 (by simp [amounts]), h 2 (by simp [amounts]), h 3 (by simp [amounts]), h 4 (by simp [amounts])⟩
  · rintro ⟨h0, h1, h2, h3, h4⟩ i hi
    match i, hi with
    | 0, _ => exact h0
    | 1, _ => exact h1
    | 2, _ => exact h2
    | 3, _ => exact h3
    | 4, _ => exact h4
    | i + 5, hi => simp [amounts] at hi; omega
theorem spansOk_iff {v : VatV} : SpansOk v ↔ AllIn 0 1073741824 (amounts v) ∧ SpIn (-50000) 150000 v.t1 v.t2 := by
  rw [amounts_ok]
  unfold SpansOk
  constructor
  · rintro ⟨h0, h1, h2, h3, h4, h5⟩; exact ⟨⟨h0, h1, h2, h3, h4⟩, h5⟩
  · rintro ⟨⟨h0, h1, h2, h3, h4⟩, h5⟩; exact ⟨h0, h1, h2, h3, h4, h5⟩

set_option maxHeartbeats 4000000 in
set_option maxRecDepth 100000 in
theorem spansFit_any (v : VatV) (w : World) : Calls Try.prog 79 #[.agg v.cells] w (SomeBool (SpansOk v) w) := by
  have hyes := Lib.hid fun (h : AllIn 0 1073741824 (amounts v)) (h' : SpIn (-50000) 150000 v.t1 v.t2) W (hB : Below w.heap.size w W) => SomeBool.yes (spansOk_iff.2 ⟨h, h'⟩) hB
  have hno1 := Lib.hid fun (h : ¬ AllIn 0 1073741824 (amounts v)) W (hB : Below w.heap.size w W) => SomeBool.no (p := SpansOk v) (fun k => h (spansOk_iff.1 k).1) hB
  have hno2 := Lib.hid fun (h : ¬ SpIn (-50000) 150000 v.t1 v.t2) W (hB : Below w.heap.size w W) => SomeBool.no (p := SpansOk v) (fun k => h (spansOk_iff.1 k).2) hB
  have hal := Lib.hid fun b W (h : Hid (SpansAt W (some ⟨b, 0, none⟩) (amounts v))) => all_any 0 1073741824 (some ⟨b, 0, none⟩) 5 (amounts v) W h (by simp [amounts])
  have hdg := Lib.hid degrees_any
  have hco := Lib.hid fun W => covers_any (-50000) 150000 v.t1 v.t2 W
  have hat := Lib.hid fun (b : Nat) (W : World) (h : Blk W b 23 #[.int .i64 v.s1, .int .i64 v.s2, .int .i64 v.e1, .int .i64 v.e2, .int .i64 v.p1, .int .i64 v.p2, .int .i64 v.g1, .int .i64 v.g2, .int .i64 v.o1, .int .i64 v.o2]) => (show SpansAt W (some ⟨b, 0, none⟩) (amounts v) from fun _ => ⟨b, 0, rfl, h.lt, fun i hi => match i, hi with
    | 0, _ => ⟨h.cell 0, h.cell 1⟩
    | 1, _ => ⟨h.cell 2, h.cell 3⟩
    | 2, _ => ⟨h.cell 4, h.cell 5⟩
    | 3, _ => ⟨h.cell 6, h.cell 7⟩
    | 4, _ => ⟨h.cell 8, h.cell 9⟩
    | i + 5, hi => absurd hi (by simp [amounts])⟩)
  obtain ⟨l, hl⟩ : ∃ l, amounts v = l := ⟨_, rfl⟩
  have hl5 : l.length = 5 := by rw [← hl]; rfl
  rw [hl] at hyes hno1 hal hat
  rw [hl5] at hal
  clear hl hl5
  obtain ⟨s1, s2, e1, e2, p1, p2, g1, g2, o1, o2, t1, t2, c⟩ := v
  simp only [VatV.cells] at *
  go_enter Try.func79, Try.ntmps79
  go_upto_region 2 with fail
  refine wp_world (fun W => Below w.heap.size w W ∧ Blk W w.heap.size 38 #[.int .i64 s1, .int .i64 s2, .int .i64 e1, .int .i64 e2, .int .i64 p1, .int .i64 p2, .int .i64 g1, .int .i64 g2, .int .i64 o1, .int .i64 o2, .int .i64 t1, .int .i64 t2, .int .i64 c] ∧ Blk W (w.heap.size + 1) 23 #[.int .i64 s1, .int .i64 s2, .int .i64 e1, .int .i64 e2, .int .i64 p1, .int .i64 p2, .int .i64 g1, .int .i64 g2, .int .i64 o1, .int .i64 o2])
    ⟨((Below.refl _ _).alloc (Nat.le_refl _) _).alloc (by simp) _, (Blk.new _ _ _).alloc _, blk_at (by simp)⟩ ?_
  rintro W0 ⟨hB0, b0, b1⟩
  have x10 : W0.cell? ⟨w.heap.size, 10, none⟩ = some (.int .i64 t1) := b0.cell 10
  have x11 : W0.cell? ⟨w.heap.size, 11, none⟩ = some (.int .i64 t2) := b0.cell 11
  have x10' := fun d os => cell_regrown x10 d os
  have x11' := fun d os => cell_regrown x11 d os
  have hal2 := Lib.hid fun W (hb : Below W0.heap.size W0 W) => hal.out (w.heap.size + 1) W (Lib.hid (hat.out _ _ (b1.below hb b1.lt)))
  clear hal hat b1
  by_cases h1 : AllIn 0 1073741824 l
  · have hal3 := Lib.hid fun W hb => (hal2.out W hb).mono fun e w' k => k.is_true h1
    clear hal2 hno1
    by_cases h2 : SpIn (-50000) 150000 t1 t2
    · have hco2 := Lib.hid fun W => (hco.out W).mono fun e w' k => k.is_true h2
      replace hyes := Lib.hid (hyes.out h1 h2)
      clear hno2 hco h1 h2
      refine wp_region_quiet_below (by kernel_rfl) (by kernel_rfl) ?_
      repeat (quiet_step (fail))
      quiet_step (first | (go_at_call 68; exact quiet_call (fun W1 h => hal3.out W1 h)))
      repeat (quiet_step (fail))
      quiet_step (first | (go_at_call 84; exact quiet_call (fun W1 _ => hdg.out W1)))
      repeat (quiet_step (fail))
      quiet_step (first | (go_at_call 62; exact quiet_call (fun W1 _ => hco2.out W1)))
      repeat (quiet_step (fail))
      refine wpQuiet_nil ?_
      intro _ hw'
      obtain ⟨⟨dq, osq⟩, hw''⟩ := hw'
      subst hw''
      have hB := hB0.trans ((below_regrown W0 dq osq).mono hB0.size)
      clear hB0 x10 x11 x10' x11' b0
      generalize grow (redrawn W0 dq) osq = W1 at *
      go_wp2
      go_ret
      exact hyes.out _ hB
    · have hco2 := Lib.hid fun W => (hco.out W).mono fun e w' k => k.is_false h2
      replace hno2 := Lib.hid (hno2.out h2)
      clear hyes hco h1 h2
      refine wp_region_quiet_below (by kernel_rfl) (by kernel_rfl) ?_
      repeat (quiet_step (fail))
      quiet_step (first | (go_at_call 68; exact quiet_call (fun W1 h => hal3.out W1 h)))
      repeat (quiet_step (fail))
      quiet_step (first | (go_at_call 84; exact quiet_call (fun W1 _ => hdg.out W1)))
      repeat (quiet_step (fail))
      quiet_step (first | (go_at_call 62; exact quiet_call (fun W1 _ => hco2.out W1)))
      repeat (quiet_step (fail))
      refine wpQuiet_nil ?_
      intro _ hw'
      obtain ⟨⟨dq, osq⟩, hw''⟩ := hw'
      subst hw''
      have hB := hB0.trans ((below_regrown W0 dq osq).mono hB0.size)
      clear hB0 x10 x11 x10' x11' b0
      generalize grow (redrawn W0 dq) osq = W1 at *
      go_wp2
      go_ret
      exact hno2.out _ hB
  · have hal3 := Lib.hid fun W hb => (hal2.out W hb).mono fun e w' k => k.is_false h1
    replace hno1 := Lib.hid (hno1.out h1)
    clear hal2 hno2 hyes h1
    refine wp_region_quiet_below (by kernel_rfl) (by kernel_rfl) ?_
    repeat (quiet_step (fail))
    quiet_step (first | (go_at_call 68; exact quiet_call (fun W1 h => hal3.out W1 h)))
    repeat (quiet_step (fail))
    refine wpQuiet_nil ?_
    intro _ hw'
    obtain ⟨⟨dq, osq⟩, hw''⟩ := hw'
    subst hw''
    have hB := hB0.trans ((below_regrown W0 dq osq).mono hB0.size)
    clear hB0 x10 x11 x10' x11' b0
    generalize grow (redrawn W0 dq) osq = W1 at *
    go_wp2
    go_ret
    exact hno1.out _ hB

set_option maxHeartbeats 4000000 in
set_option maxRecDepth 100000 in
theorem validVat_any (v : VatV) (w : World) : Calls Try.prog 76 #[.agg v.cells] w (SomeBool (VatOk v) w) := by
  have hsf := Lib.hid fun W => spansFit_any v W
  have hyes := Lib.hid fun (h : SpansOk v) (h1 : 1 ≤ v.c) (h2 : v.c ≤ 1099511627776) W (hB : Below w.heap.size w W) => SomeBool.yes (p := VatOk v) ⟨h, h1, h2⟩ hB
  have hno := Lib.hid fun (h : ¬ (SpansOk v ∧ 1 ≤ v.c ∧ v.c ≤ 1099511627776)) W (hB : Below w.heap.size w W) => SomeBool.no (p := VatOk v) h hB
  obtain ⟨p, hp⟩ : ∃ p, SpansOk v = p := ⟨_, rfl⟩
  rw [hp] at hsf hyes hno
  clear hp
  obtain ⟨s1, s2, e1, e2, p1, p2, g1, g2, o1, o2, t1, t2, c⟩ := v
  simp only [VatV.cells] at *
  go_enter Try.func76, Try.ntmps76
  go_wp2_with fail
  refine calls_world (fun W => Below w.heap.size w W ∧ Blk W w.heap.size 38 #[.int .i64 s1, .int .i64 s2, .int .i64 e1, .int .i64 e2, .int .i64 p1, .int .i64 p2, .int .i64 g1, .int .i64 g2, .int .i64 o1, .int .i64 o2, .int .i64 t1, .int .i64 t2, .int .i64 c]) ⟨(Below.refl _ _).alloc (Nat.le_refl _) _, Blk.new _ _ _⟩ ?_
  rintro W0 ⟨hB, b0⟩
  refine (hsf.out _).mono ?_
  rintro e W1 ⟨r, rfl, hr, hb⟩
  replace b0 := b0.below hb b0.lt
  replace hB := hB.trans (hb.mono hB.size)
  have x12 : W1.cell? ⟨w.heap.size, 12, none⟩ = some (.int .i64 c) := b0.cell 12
  clear hb hsf b0
  cases r with
  | false =>
    replace hno := Lib.hid (hno.out (fun h => Bool.noConfusion (hr.2 h.1)))
    clear hr hyes
    go_wp2_with fail
    go_ret
    exact hno.out _ hB
  | true =>
    have hok := hr.1 rfl
    clear hr
    by_cases c1 : 1 ≤ c
    · have c1' : decide (1 ≤ c) = true := by simpa using c1
      by_cases c2 : c ≤ 1099511627776
      · have c2' : decide (c ≤ 1099511627776) = true := by simpa using c2
        replace hyes := Lib.hid (hyes.out hok c1 c2)
        clear hno hok c1 c2
        go_wp2_with fail
        go_ret
        exact hyes.out _ hB
      · have c2' : decide (c ≤ 1099511627776) = false := by simpa using c2
        replace hno := Lib.hid (hno.out (fun h => c2 h.2.2))
        clear hyes hok c1 c2
        go_wp2_with fail
        go_ret
        exact hno.out _ hB
    · have c1' : decide (1 ≤ c) = false := by simpa using c1
      replace hno := Lib.hid (hno.out (fun h => c1 h.2.1))
      clear hyes hok c1
      go_wp2_with fail
      go_ret
      exact hno.out _ hB
end Go.Proofs.Ytjcadgklamhohaa
