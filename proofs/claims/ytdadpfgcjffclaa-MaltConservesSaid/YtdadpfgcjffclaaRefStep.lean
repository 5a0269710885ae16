/- What the document's own package says of a step, over whole numbers; Step, plus, behind. -/
import Derived.Test.YtdadpfgcjffclaaNext
import Derived.Test.YtdadpfgcjffclaaPlay
import Derived.Test.YtdadpfgcjffclaaBehSteep
import Derived.Test.YtdadpfgcjffclaaBehSprout
import Derived.Test.YtdadpfgcjffclaaBehKiln
import Derived.Test.YtdadpfgcjffclaaBehPeat
import Derived.Test.YtdadpfgcjffclaaBehSieve
import Derived.Test.YtdadpfgcjffclaaBehWeigh
namespace Go.Proofs.Ytdadpfgcjffclaa
open Go.RowKit Go.Sort
attribute [local go_sem] Oper.calm Oper.calmAt Oper.calmUpon

/-- what is known behind a step, and what was lost in it, before it is asked whether it can be -/
def behG (d1 d2 w1 w2 p1 p2 k x y : Int) : Gr :=
  if k = 0 then ⟨d1, d2, w1 + x, w2 + y, p1, p2, x, y, 0, 0, 0, 0, 0, 0⟩
  else if k = 1 then ⟨upQ (d1 * (10000 - y)) 10000, d2 * (10000 - x) / 10000, w1, w2, p1, p2, 0, 0, upQ (x * d1) 10000, y * d2 / 10000, 0, 0, 0, 0⟩
  else if k = 2 then ⟨d1, d2, upQ (x * d1) 10000, min (y * d2 / 10000) w2, p1, p2, 0, 0, 0, 0, 0, 0, max (w1 - min (y * d2 / 10000) w2) 0, w2 - upQ (x * d1) 10000⟩
  else if k = 3 then ⟨d1, d2, w1, w2, p1 + upQ (x * d1) 1000, p2 + y * d2 / 1000, 0, 0, 0, 0, 0, 0, 0, 0⟩
  else if k = 4 then ⟨max (d1 - y) 0, d2 - x, w1, w2, p1, p2, 0, 0, 0, 0, x, min y d2, 0, 0⟩
  else ⟨max d1 (x - w2), min d2 (y - w1), max w1 (x - d2), min w2 (y - d1), p1, p2, 0, 0, 0, 0, 0, 0, 0, 0⟩
def badG (h : Gr) : Prop := h.d2 < h.d1 ∨ h.w2 < h.w1 ∨ h.p2 < h.p1 ∨ h.t2 < h.t1 ∨ h.g2 < h.g1 ∨ h.r2 < h.r1 ∨ h.s2 < h.s1
instance (h : Gr) : Decidable (badG h) := by unfold badG; infer_instance
def addG (g h : Gr) : Gr := ⟨h.d1, h.d2, h.w1, h.w2, h.p1, h.p2, g.t1 + h.t1, g.t2 + h.t2, g.g1 + h.g1, g.g2 + h.g2, g.r1 + h.r1, g.r2 + h.r2, g.s1 + h.s1, g.s2 + h.s2⟩

theorem doG_beh (g : Gr) (k x y : Int) (hg : g.Ok) (hs : StepOk k x y) : doG g k x y = if badG (behG g.d1 g.d2 g.w1 g.w2 g.p1 g.p2 k x y) then none else some (addG g (behG g.d1 g.d2 g.w1 g.w2 g.p1 g.p2 k x y)) := by
  obtain ⟨d1, d2, w1, w2, p1, p2, t1, t2, g1, g2, r1, r2, s1, s2⟩ := g
  obtain ⟨⟨hd0, hd1, hd2⟩, ⟨hw0, hw1, hw2⟩, ⟨hp0, hp1, hp2⟩, _, _, _, _⟩ := hg
  obtain ⟨k0, k5, hx0, hx1, hx2⟩ := hs
  dsimp only at hd0 hd1 hd2 hw0 hw1 hw2 hp0 hp1 hp2 ⊢
  have hk : k = 0 ∨ k = 1 ∨ k = 2 ∨ k = 3 ∨ k = 4 ∨ k = 5 := by omega
  have c1 : d1 * (10000 - y) = (10000 - y) * d1 := Int.mul_comm _ _
  have c2 : d2 * (10000 - x) = (10000 - x) * d2 := Int.mul_comm _ _
  rcases hk with rfl | rfl | rfl | rfl | rfl | rfl
  · simp only [doG, steepG, behG, badG, addG, if_true, Int.add_zero]
    rw [if_neg (by omega)]
  · simp only [doG, sproutG, behG, badG, addG, c1, c2, Int.add_zero, show ¬ (1 : Int) = 0 by omega, if_false, if_true]
    generalize upQ (x * d1) 10000 = u1
    generalize y * d2 / 10000 = v1
    generalize upQ ((10000 - y) * d1) 10000 = u2
    generalize (10000 - x) * d2 / 10000 = v2
    by_cases h : u1 ≤ v1 ∧ u2 ≤ v2
    · rw [if_pos h, if_neg (by omega)]
    · rw [if_neg h, if_pos (by omega)]
  · simp only [doG, kilnG, behG, badG, addG, Int.add_zero, show ¬ (2 : Int) = 0 by omega, show ¬ (2 : Int) = 1 by omega, if_false, if_true]
    generalize upQ (x * d1) 10000 = u
    generalize y * d2 / 10000 = v
    by_cases h : u ≤ min v w2
    · rw [if_pos h, if_neg (by omega)]
    · rw [if_neg h, if_pos (by omega)]
  · simp only [doG, peatG, behG, badG, addG, Int.add_zero, show ¬ (3 : Int) = 0 by omega, show ¬ (3 : Int) = 1 by omega, show ¬ (3 : Int) = 2 by omega, if_false, if_true]
    generalize upQ (x * d1) 1000 = u
    generalize y * d2 / 1000 = v
    by_cases h : p1 + u ≤ p2 + v
    · rw [if_pos h, if_neg (by omega)]
    · rw [if_neg h, if_pos (by omega)]
  · simp only [doG, sieveG, behG, badG, addG, Int.add_zero, show ¬ (4 : Int) = 0 by omega, show ¬ (4 : Int) = 1 by omega, show ¬ (4 : Int) = 2 by omega, show ¬ (4 : Int) = 3 by omega, if_false, if_true]
    by_cases h : x ≤ min y d2
    · rw [if_pos h, if_neg (by omega)]
    · rw [if_neg h, if_pos (by omega)]
  · simp only [doG, weighG, behG, badG, addG, Int.add_zero, show ¬ (5 : Int) = 0 by omega, show ¬ (5 : Int) = 1 by omega, show ¬ (5 : Int) = 2 by omega, show ¬ (5 : Int) = 3 by omega, show ¬ (5 : Int) = 4 by omega, if_false]
    by_cases h : max d1 (x - w2) ≤ min d2 (y - w1) ∧ max w1 (x - d2) ≤ min w2 (y - d1)
    · rw [if_pos h, if_neg (by omega)]
    · rw [if_neg h, if_pos (by omega)]

theorem behind_any (d1 d2 w1 w2 p1 p2 k x y : Int) (w : World) (hd : SpOk d1 d2 1099511627776) (hw : SpOk w1 w2 1099511627776) (hp : SpOk p1 p2 1099511627776) (hs : StepOk k x y) :
    Calls Try.prog 38 #[.agg #[.int .i64 d1, .int .i64 d2, .int .i64 w1, .int .i64 w2, .int .i64 p1, .int .i64 p2], .agg #[.int .i64 k, .int .i64 x, .int .i64 y]] w fun e w' => e = .returned (.tuple #[.agg (behG d1 d2 w1 w2 p1 p2 k x y).malt, .agg (behG d1 d2 w1 w2 p1 p2 k x y).loss]) ∧ Below w.heap.size w w' := by
  obtain ⟨k0, k5, hx⟩ := hs
  have hk : k = 0 ∨ k = 1 ∨ k = 2 ∨ k = 3 ∨ k = 4 ∨ k = 5 := by omega
  rcases hk with rfl | rfl | rfl | rfl | rfl | rfl
  · exact beh_steep d1 d2 w1 w2 p1 p2 x y w hd hw hp hx
  · exact beh_sprout d1 d2 w1 w2 p1 p2 x y _ _ _ _ w hd hw hp hx (Lib.hid rfl) (Lib.hid rfl) (Lib.hid rfl) (Lib.hid rfl)
  · exact beh_kiln d1 d2 w1 w2 p1 p2 x y _ _ _ _ w hd hw hp hx (Lib.hid rfl) (Lib.hid rfl) (Lib.hid rfl) (Lib.hid rfl)
  · exact beh_peat d1 d2 w1 w2 p1 p2 x y _ _ w hd hw hp hx (Lib.hid rfl) (Lib.hid rfl)
  · exact beh_sieve d1 d2 w1 w2 p1 p2 x y _ _ w hd hw hp hx (Lib.hid rfl) (Lib.hid rfl)
  · exact beh_weigh d1 d2 w1 w2 p1 p2 x y _ _ _ _ w hd hw hp hx (Lib.hid rfl) (Lib.hid rfl) (Lib.hid rfl) (Lib.hid rfl)

set_option maxHeartbeats 1000000 in
theorem refplus_any (a b c d : Int) (w : World) (h1 : 0 ≤ a + c ∧ a + c ≤ 4611686018427387904) (h2 : 0 ≤ b + d ∧ b + d ≤ 4611686018427387904) :
    Calls Try.prog 39 #[.agg #[.int .i64 a, .int .i64 b], .agg #[.int .i64 c, .int .i64 d]] w fun e w' => e = .returned (.agg #[.int .i64 (a + c), .int .i64 (b + d)]) ∧ Below w.heap.size w w' := by
  go_enter Try.func39, Try.ntmps39
  go_upto_region 1 with fail
  refine wp_world (fun W => Below w.heap.size w W ∧ Blk W w.heap.size 23 #[.int .i64 a, .int .i64 b] ∧ Blk W (w.heap.size + 1) 23 #[.int .i64 c, .int .i64 d] ∧ Blk W (w.heap.size + 1 + 1) 23 #[.int .i64 0, .int .i64 0])
    ⟨(((Below.refl _ _).alloc (Nat.le_refl _) _).alloc (by simp) _).alloc (by simp; omega) _, ((Blk.new _ _ _).alloc _).alloc _, (blk_at (by simp)).alloc _, blk_at (by simp)⟩ ?_
  rintro W0 ⟨hB, b0, b1, b2⟩
  obtain ⟨x0, x1, _, _⟩ := b0.facts2
  obtain ⟨y0, y1, _, _⟩ := b1.facts2
  obtain ⟨z0, z1, _, _⟩ := b2.facts2
  have n2 := b2.lt
  go_wp2
  refine ret_world (fun W => Below w.heap.size w W ∧ Blk W (w.heap.size + 1 + 1) 23 #[.int .i64 (a + c), .int .i64 (b + d)]) ⟨belowp hB (by omega), (b2.set_ 0 _).set_ 1 _⟩ ?_
  clear hB b0 b1 b2 x0 x1 y0 y1 z0 z1
  rintro W ⟨hB, b2⟩
  obtain ⟨z0, z1, _, _⟩ := b2.facts2
  exact bodyPost_ret (v := .agg #[.int .i64 (a + c), .int .i64 (b + d)]) (by simp [results, Try.results39, go_sem, z0, z1]) rfl ⟨rfl, hB⟩

set_option maxHeartbeats 8000000 in
theorem refStep_any (k x y : Int) (w : World) : Calls Try.prog 27 #[.agg #[.int .i64 k, .int .i64 x, .int .i64 y]] w (SomeBool (StepOk k x y) w) := by
  have hin := Lib.hid fun W => refin_any k 0 5 W
  have hcond : ((k == 1) = true ∧ mostOf k = 10000) ∨ ((k == 1) = false ∧ (k == 2) = true ∧ mostOf k = 10000) ∨ ((k == 1) = false ∧ (k == 2) = false ∧ (k == 3) = true ∧ mostOf k = 1048576) ∨ ((k == 1) = false ∧ (k == 2) = false ∧ (k == 3) = false ∧ mostOf k = 1099511627776) := by
    unfold mostOf
    by_cases h1 : k = 1
    · subst h1; exact .inl ⟨rfl, rfl⟩
    · by_cases h2 : k = 2
      · subst h2; exact .inr (.inl ⟨rfl, rfl, rfl⟩)
      · by_cases h3 : k = 3
        · subst h3; exact .inr (.inr (.inl ⟨rfl, rfl, rfl, rfl⟩))
        · exact .inr (.inr (.inr ⟨by simpa using h1, by simpa using h2, by simpa using h3, by simp [h1, h2, h3]⟩))
  have hno := Lib.hid fun (h : ¬ StepOk k x y) W (hB : Below w.heap.size w W) => SomeBool.no h hB
  have hyes := Lib.hid fun (h : StepOk k x y) W (hB : Below w.heap.size w W) => SomeBool.yes h hB
  have hst := Lib.hid (show StepOk k x y ↔ (0 ≤ k ∧ k ≤ 5) ∧ 0 ≤ x ∧ x ≤ y ∧ y ≤ mostOf k from ⟨fun h => ⟨⟨h.1, h.2.1⟩, h.2.2.1, h.2.2.2.1, h.2.2.2.2⟩, fun h => ⟨h.1.1, h.1.2, h.2.1, h.2.2.1, h.2.2.2⟩⟩)
  rcases hcond with ⟨q1, hm⟩ | ⟨q1, q2, hm⟩ | ⟨q1, q2, q3, hm⟩ | ⟨q1, q2, q3, hm⟩
  · rw [hm] at hst
    clear hm
    go_enter Try.func27, Try.ntmps27
    go_wp2_with fail
    refine calls_world (fun W => Below w.heap.size w W ∧ Blk W w.heap.size 54 #[.int .i64 k, .int .i64 x, .int .i64 y]) ⟨(Below.refl _ _).alloc (Nat.le_refl _) _, Blk.new _ _ _⟩ ?_
    rintro W0 ⟨hB, b0⟩
    refine (hin.out _).mono ?_
    rintro e W1 ⟨r, rfl, hr, hb⟩
    replace b0 := b0.below hb b0.lt
    replace hB := hB.trans (hb.mono hB.size)
    clear hb hin
    obtain ⟨x0, x1, x2, _, _, _⟩ := b0.facts3
    cases r with
    | false =>
      replace hno := Lib.hid (hno.out (fun h => Bool.noConfusion (hr.2 (hst.out.1 h).1)))
      clear hr hst
      go_wp2
      go_ret
      exact hno.out _ hB
    | true =>
      have hr' := hr.1 rfl
      replace hyes := Lib.hid fun (h : 0 ≤ x ∧ x ≤ y ∧ y ≤ 10000) => hyes.out (hst.out.2 ⟨hr', h⟩)
      replace hno := Lib.hid fun (h : ¬ (0 ≤ x ∧ x ≤ y ∧ y ≤ 10000)) => hno.out (fun h' => h (hst.out.1 h').2)
      clear hr hr' hst
      by_cases c1 : 0 ≤ x
      · by_cases c2 : x ≤ y
        · by_cases c3 : y ≤ 10000
          · replace hyes := Lib.hid (hyes.out ⟨c1, c2, c3⟩)
            have c1' : decide (0 ≤ x) = true := by simpa using c1
            have c2' : decide (x ≤ y) = true := by simpa using c2
            have c3' : decide (y ≤ 10000) = true := by simpa using c3
            clear c1 c2 c3
            go_wp2
            go_ret
            exact hyes.out _ hB
          · replace hno := Lib.hid (hno.out (fun h => c3 h.2.2))
            have c1' : decide (0 ≤ x) = true := by simpa using c1
            have c2' : decide (x ≤ y) = true := by simpa using c2
            have c3' : decide (y ≤ 10000) = false := by simpa using c3
            clear c1 c2 c3
            go_wp2
            go_ret
            exact hno.out _ hB
        · replace hno := Lib.hid (hno.out (fun h => c2 h.2.1))
          have c1' : decide (0 ≤ x) = true := by simpa using c1
          have c2' : decide (x ≤ y) = false := by simpa using c2
          clear c1 c2
          go_wp2
          go_ret
          exact hno.out _ hB
      · replace hno := Lib.hid (hno.out (fun h => c1 h.1))
        have c1' : decide (0 ≤ x) = false := by simpa using c1
        clear c1
        go_wp2
        go_ret
        exact hno.out _ hB
  · rw [hm] at hst
    clear hm
    go_enter Try.func27, Try.ntmps27
    go_wp2_with fail
    refine calls_world (fun W => Below w.heap.size w W ∧ Blk W w.heap.size 54 #[.int .i64 k, .int .i64 x, .int .i64 y]) ⟨(Below.refl _ _).alloc (Nat.le_refl _) _, Blk.new _ _ _⟩ ?_
    rintro W0 ⟨hB, b0⟩
    refine (hin.out _).mono ?_
    rintro e W1 ⟨r, rfl, hr, hb⟩
    replace b0 := b0.below hb b0.lt
    replace hB := hB.trans (hb.mono hB.size)
    clear hb hin
    obtain ⟨x0, x1, x2, _, _, _⟩ := b0.facts3
    cases r with
    | false =>
      replace hno := Lib.hid (hno.out (fun h => Bool.noConfusion (hr.2 (hst.out.1 h).1)))
      clear hr hst
      go_wp2
      go_ret
      exact hno.out _ hB
    | true =>
      have hr' := hr.1 rfl
      replace hyes := Lib.hid fun (h : 0 ≤ x ∧ x ≤ y ∧ y ≤ 10000) => hyes.out (hst.out.2 ⟨hr', h⟩)
      replace hno := Lib.hid fun (h : ¬ (0 ≤ x ∧ x ≤ y ∧ y ≤ 10000)) => hno.out (fun h' => h (hst.out.1 h').2)
      clear hr hr' hst
      by_cases c1 : 0 ≤ x
      · by_cases c2 : x ≤ y
        · by_cases c3 : y ≤ 10000
          · replace hyes := Lib.hid (hyes.out ⟨c1, c2, c3⟩)
            have c1' : decide (0 ≤ x) = true := by simpa using c1
            have c2' : decide (x ≤ y) = true := by simpa using c2
            have c3' : decide (y ≤ 10000) = true := by simpa using c3
            clear c1 c2 c3
            go_wp2
            go_ret
            exact hyes.out _ hB
          · replace hno := Lib.hid (hno.out (fun h => c3 h.2.2))
            have c1' : decide (0 ≤ x) = true := by simpa using c1
            have c2' : decide (x ≤ y) = true := by simpa using c2
            have c3' : decide (y ≤ 10000) = false := by simpa using c3
            clear c1 c2 c3
            go_wp2
            go_ret
            exact hno.out _ hB
        · replace hno := Lib.hid (hno.out (fun h => c2 h.2.1))
          have c1' : decide (0 ≤ x) = true := by simpa using c1
          have c2' : decide (x ≤ y) = false := by simpa using c2
          clear c1 c2
          go_wp2
          go_ret
          exact hno.out _ hB
      · replace hno := Lib.hid (hno.out (fun h => c1 h.1))
        have c1' : decide (0 ≤ x) = false := by simpa using c1
        clear c1
        go_wp2
        go_ret
        exact hno.out _ hB
  · rw [hm] at hst
    clear hm
    go_enter Try.func27, Try.ntmps27
    go_wp2_with fail
    refine calls_world (fun W => Below w.heap.size w W ∧ Blk W w.heap.size 54 #[.int .i64 k, .int .i64 x, .int .i64 y]) ⟨(Below.refl _ _).alloc (Nat.le_refl _) _, Blk.new _ _ _⟩ ?_
    rintro W0 ⟨hB, b0⟩
    refine (hin.out _).mono ?_
    rintro e W1 ⟨r, rfl, hr, hb⟩
    replace b0 := b0.below hb b0.lt
    replace hB := hB.trans (hb.mono hB.size)
    clear hb hin
    obtain ⟨x0, x1, x2, _, _, _⟩ := b0.facts3
    cases r with
    | false =>
      replace hno := Lib.hid (hno.out (fun h => Bool.noConfusion (hr.2 (hst.out.1 h).1)))
      clear hr hst
      go_wp2
      go_ret
      exact hno.out _ hB
    | true =>
      have hr' := hr.1 rfl
      replace hyes := Lib.hid fun (h : 0 ≤ x ∧ x ≤ y ∧ y ≤ 1048576) => hyes.out (hst.out.2 ⟨hr', h⟩)
      replace hno := Lib.hid fun (h : ¬ (0 ≤ x ∧ x ≤ y ∧ y ≤ 1048576)) => hno.out (fun h' => h (hst.out.1 h').2)
      clear hr hr' hst
      by_cases c1 : 0 ≤ x
      · by_cases c2 : x ≤ y
        · by_cases c3 : y ≤ 1048576
          · replace hyes := Lib.hid (hyes.out ⟨c1, c2, c3⟩)
            have c1' : decide (0 ≤ x) = true := by simpa using c1
            have c2' : decide (x ≤ y) = true := by simpa using c2
            have c3' : decide (y ≤ 1048576) = true := by simpa using c3
            clear c1 c2 c3
            go_wp2
            go_ret
            exact hyes.out _ hB
          · replace hno := Lib.hid (hno.out (fun h => c3 h.2.2))
            have c1' : decide (0 ≤ x) = true := by simpa using c1
            have c2' : decide (x ≤ y) = true := by simpa using c2
            have c3' : decide (y ≤ 1048576) = false := by simpa using c3
            clear c1 c2 c3
            go_wp2
            go_ret
            exact hno.out _ hB
        · replace hno := Lib.hid (hno.out (fun h => c2 h.2.1))
          have c1' : decide (0 ≤ x) = true := by simpa using c1
          have c2' : decide (x ≤ y) = false := by simpa using c2
          clear c1 c2
          go_wp2
          go_ret
          exact hno.out _ hB
      · replace hno := Lib.hid (hno.out (fun h => c1 h.1))
        have c1' : decide (0 ≤ x) = false := by simpa using c1
        clear c1
        go_wp2
        go_ret
        exact hno.out _ hB
  · rw [hm] at hst
    clear hm
    go_enter Try.func27, Try.ntmps27
    go_wp2_with fail
    refine calls_world (fun W => Below w.heap.size w W ∧ Blk W w.heap.size 54 #[.int .i64 k, .int .i64 x, .int .i64 y]) ⟨(Below.refl _ _).alloc (Nat.le_refl _) _, Blk.new _ _ _⟩ ?_
    rintro W0 ⟨hB, b0⟩
    refine (hin.out _).mono ?_
    rintro e W1 ⟨r, rfl, hr, hb⟩
    replace b0 := b0.below hb b0.lt
    replace hB := hB.trans (hb.mono hB.size)
    clear hb hin
    obtain ⟨x0, x1, x2, _, _, _⟩ := b0.facts3
    cases r with
    | false =>
      replace hno := Lib.hid (hno.out (fun h => Bool.noConfusion (hr.2 (hst.out.1 h).1)))
      clear hr hst
      go_wp2
      go_ret
      exact hno.out _ hB
    | true =>
      have hr' := hr.1 rfl
      replace hyes := Lib.hid fun (h : 0 ≤ x ∧ x ≤ y ∧ y ≤ 1099511627776) => hyes.out (hst.out.2 ⟨hr', h⟩)
      replace hno := Lib.hid fun (h : ¬ (0 ≤ x ∧ x ≤ y ∧ y ≤ 1099511627776)) => hno.out (fun h' => h (hst.out.1 h').2)
      clear hr hr' hst
      by_cases c1 : 0 ≤ x
      · by_cases c2 : x ≤ y
        · by_cases c3 : y ≤ 1099511627776
          · replace hyes := Lib.hid (hyes.out ⟨c1, c2, c3⟩)
            have c1' : decide (0 ≤ x) = true := by simpa using c1
            have c2' : decide (x ≤ y) = true := by simpa using c2
            have c3' : decide (y ≤ 1099511627776) = true := by simpa using c3
            clear c1 c2 c3
            go_wp2
            go_ret
            exact hyes.out _ hB
          · replace hno := Lib.hid (hno.out (fun h => c3 h.2.2))
            have c1' : decide (0 ≤ x) = true := by simpa using c1
            have c2' : decide (x ≤ y) = true := by simpa using c2
            have c3' : decide (y ≤ 1099511627776) = false := by simpa using c3
            clear c1 c2 c3
            go_wp2
            go_ret
            exact hno.out _ hB
        · replace hno := Lib.hid (hno.out (fun h => c2 h.2.1))
          have c1' : decide (0 ≤ x) = true := by simpa using c1
          have c2' : decide (x ≤ y) = false := by simpa using c2
          clear c1 c2
          go_wp2
          go_ret
          exact hno.out _ hB
      · replace hno := Lib.hid (hno.out (fun h => c1 h.1))
        have c1' : decide (0 ≤ x) = false := by simpa using c1
        clear c1
        go_wp2
        go_ret
        exact hno.out _ hB
end Go.Proofs.Ytdadpfgcjffclaa
