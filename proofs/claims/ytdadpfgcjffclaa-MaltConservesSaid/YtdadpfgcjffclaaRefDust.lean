/- What the document's own package answers for mills: in, Mill, up, later, Dust, Harm; and span, Malt. -/
import Derived.Test.YtdadpfgcjffclaaHarm
import Derived.Test.YtdadpfgcjffclaaValid
namespace Go.Proofs.Ytdadpfgcjffclaa
open Go.RowKit Go.Sort
attribute [local go_sem] Oper.calm Oper.calmAt Oper.calmUpon

set_option maxHeartbeats 1000000 in
theorem refin_any (n a b : Int) (w : World) : Calls Try.prog 46 #[.int .i64 n, .int .i64 a, .int .i64 b] w (SomeBool (a ≤ n ∧ n ≤ b) w) := by
  by_cases c1 : a ≤ n
  · have c1' : decide (a ≤ n) = true := by simpa using c1
    by_cases c2 : n ≤ b
    · have c2' : decide (n ≤ b) = true := by simpa using c2
      have hf := Lib.hid (show a ≤ n ∧ n ≤ b from ⟨c1, c2⟩)
      clear c1 c2
      go_enter Try.func46, Try.ntmps46
      go_wp2
      go_ret
      exact SomeBool.yes hf.out (Below.refl _ _)
    · have c2' : decide (n ≤ b) = false := by simpa using c2
      have hf := Lib.hid (show ¬ (a ≤ n ∧ n ≤ b) from fun h => c2 h.2)
      clear c1 c2
      go_enter Try.func46, Try.ntmps46
      go_wp2
      go_ret
      exact SomeBool.no hf.out (Below.refl _ _)
  · have c1' : decide (a ≤ n) = false := by simpa using c1
    have hf := Lib.hid (show ¬ (a ≤ n ∧ n ≤ b) from fun h => c1 h.1)
    clear c1
    go_enter Try.func46, Try.ntmps46
    go_wp2
    go_ret
    exact SomeBool.no hf.out (Below.refl _ _)

set_option maxHeartbeats 2000000 in
theorem refMill_any (f m d l : Int) (w : World) : Calls Try.prog 30 #[.agg #[.int .i64 f, .int .i64 m, .int .i64 d, .int .i64 l]] w (SomeBool (MillOk f m d l) w) := by
  have h1 := Lib.hid fun W => refin_any f 0 1073741824 W
  have h2 := Lib.hid fun W => refin_any m 0 1073741824 W
  have h3 := Lib.hid fun W => refin_any l 0 1073741824 W
  have h4 := Lib.hid fun W => refin_any d 0 10000 W
  go_enter Try.func30, Try.ntmps30
  go_wp2_with fail
  refine calls_world (fun W => Below w.heap.size w W ∧ Blk W w.heap.size 37 #[.int .i64 f, .int .i64 m, .int .i64 d, .int .i64 l]) ⟨(Below.refl _ _).alloc (Nat.le_refl _) _, Blk.new _ _ _⟩ ?_
  rintro W0 ⟨hB0, b0⟩
  refine (h1.out _).mono ?_
  rintro e W1 ⟨r1, rfl, hr1, hb⟩
  replace b0 := b0.below hb b0.lt
  have hB1 := hB0.trans (hb.mono hB0.size)
  clear hb hB0 h1
  obtain ⟨x0, x1, x2, x3, _, _, _, _⟩ := b0.facts4
  cases r1 with
  | false =>
    replace hr1 := Lib.hid (fun h => Bool.noConfusion (hr1.2 h) : ¬ _)
    go_wp2
    go_ret
    exact SomeBool.no (fun h => hr1.out h.1) hB1
  | true =>
    replace hr1 := Lib.hid (hr1.1 rfl)
    go_wp2_with fail
    clear x0 x1 x2 x3
    refine (h2.out _).mono ?_
    rintro e W2 ⟨r2, rfl, hr2, hb⟩
    replace b0 := b0.below hb b0.lt
    have hB2 := hB1.trans (hb.mono hB1.size)
    clear hb hB1 h2
    obtain ⟨x0, x1, x2, x3, _, _, _, _⟩ := b0.facts4
    cases r2 with
    | false =>
      replace hr2 := Lib.hid (fun h => Bool.noConfusion (hr2.2 h) : ¬ _)
      go_wp2
      go_ret
      exact SomeBool.no (fun h => hr2.out h.2.1) hB2
    | true =>
      replace hr2 := Lib.hid (hr2.1 rfl)
      go_wp2_with fail
      clear x0 x1 x2 x3
      refine (h3.out _).mono ?_
      rintro e W3 ⟨r3, rfl, hr3, hb⟩
      replace b0 := b0.below hb b0.lt
      have hB3 := hB2.trans (hb.mono hB2.size)
      clear hb hB2 h3
      obtain ⟨x0, x1, x2, x3, _, _, _, _⟩ := b0.facts4
      cases r3 with
      | false =>
        replace hr3 := Lib.hid (fun h => Bool.noConfusion (hr3.2 h) : ¬ _)
        go_wp2
        go_ret
        exact SomeBool.no (fun h => hr3.out h.2.2.1) hB3
      | true =>
        replace hr3 := Lib.hid (hr3.1 rfl)
        go_wp2_with fail
        clear x0 x1 x2 x3
        refine (h4.out _).mono ?_
        rintro e W4 ⟨r4, rfl, hr4, hb⟩
        replace b0 := b0.below hb b0.lt
        have hB4 := hB3.trans (hb.mono hB3.size)
        clear hb hB3 h4
        obtain ⟨x0, x1, x2, x3, _, _, _, _⟩ := b0.facts4
        replace hr4 := Lib.hid hr4
        go_wp2
        go_ret
        exact ⟨r4, rfl, ⟨fun h => ⟨hr1.out, hr2.out, hr3.out, hr4.out.1 h⟩, fun h => hr4.out.2 h.2.2.2⟩, hB4⟩

set_option maxHeartbeats 1000000 in
theorem refup_any (a b u : Int) (w : World) (ha : 0 ≤ a) (hb : 0 < b) (hab : a + b ≤ 9223372036854775807) (hu : Hid (upQ a b = u)) :
    Calls Try.prog 43 #[.int .i64 a, .int .i64 b] w fun e w' => e = .returned (.int .i64 u) ∧ Below w.heap.size w w' := by
  have e1 : (a + b - 1).tdiv b = u := by rw [Int.tdiv_eq_ediv_of_nonneg (by omega)]; exact hu.out
  have e2 := @upQ_bd a b hb ha
  rw [hu.out] at e2
  go_enter Try.func43, Try.ntmps43
  go_wp2
  go_ret
  exact ⟨rfl, Below.refl _ _⟩

set_option maxHeartbeats 1000000 in
theorem refdown_any (a b u : Int) (w : World) (ha : 0 ≤ a) (hb : 0 < b) (ha' : a ≤ 9223372036854775807) (hu : Hid (a / b = u)) :
    Calls Try.prog 42 #[.int .i64 a, .int .i64 b] w fun e w' => e = .returned (.int .i64 u) ∧ Below w.heap.size w w' := by
  have e1 : a.tdiv b = u := by rw [Int.tdiv_eq_ediv_of_nonneg (by omega)]; exact hu.out
  have e2 : 0 ≤ a / b := Int.ediv_nonneg ha (by omega)
  have e3 : a / b ≤ a := Int.ediv_le_self _ ha
  rw [hu.out] at e2 e3
  go_enter Try.func42, Try.ntmps42
  go_wp2
  go_ret
  exact ⟨rfl, Below.refl _ _⟩

set_option maxHeartbeats 1000000 in
theorem reflater_any (f m d l c u : Int) (w : World) (h : MillOk f m d l) (hc : 0 ≤ c) (hc' : c ≤ 1073741824) (hu : Hid (laterM m d c = u)) :
    Calls Try.prog 47 #[.agg #[.int .i64 f, .int .i64 m, .int .i64 d, .int .i64 l], .int .i64 c] w fun e w' => e = .returned (.int .i64 u) ∧ Below w.heap.size w w' := by
  obtain ⟨_, ⟨m0, m1⟩, _, d0, d1⟩ := h
  have e1 := later_bd m0 d0 d1 hc
  have e2 := e1.2.2
  have e3 := e1.2.1
  have e4 := e1.1
  have hu' := hu.out
  unfold laterM at hu' e3 e4
  obtain ⟨q, hq⟩ : ∃ q, upQ ((10000 - d) * c) 10000 = q := ⟨_, rfl⟩
  rw [hq] at hu' e3 e4
  have hup := Lib.hid fun W => refup_any ((10000 - d) * c) 10000 q W e2.1 (by omega) (by omega) (Lib.hid hq)
  have r1 : IntKind.i64.wrap (10000 - d) = 10000 - d := IntWalk.i64_in _ (by omega)
  have r2 : IntKind.i64.wrap ((10000 - d) * c) = (10000 - d) * c := IntWalk.i64_in _ (by omega)
  have hqb := upQ_bd (b := 10000) (by omega) e2.1
  rw [hq] at hqb
  have r3 : IntKind.i64.wrap (q + m) = u := by rw [IntWalk.i64_in _ (by omega)]; exact hu'
  have r4 : IntKind.i64.wrap u = u := IntWalk.i64_in _ (by omega)
  clear e1 e2 e3 e4 hu hq hqb hu'
  go_enter Try.func47, Try.ntmps47
  go_upto_region 1 with fail
  refine wp_world (fun W => Below w.heap.size w W ∧ Blk W w.heap.size 37 #[.int .i64 f, .int .i64 m, .int .i64 d, .int .i64 l]) ⟨(Below.refl _ _).alloc (Nat.le_refl _) _, Blk.new _ _ _⟩ ?_
  rintro W0 ⟨hB0, b0⟩
  obtain ⟨x0, x1, x2, x3, _, _, _, _⟩ := b0.facts4
  have x1' := fun d os => cell_regrown x1 d os
  have x2' := fun d os => cell_regrown x2 d os
  refine wp_region_quiet_below (by kernel_rfl) (by kernel_rfl) ?_
  repeat (quiet_step (fail))
  quiet_step (first | (go_at_call 43; exact quiet_call (fun W1 _ => hup.out W1)))
  repeat (quiet_step (fail))
  refine wpQuiet_nil ?_
  intro _ hw'
  obtain ⟨⟨dq, osq⟩, hw''⟩ := hw'
  subst hw''
  have hB2 := hB0.trans ((below_regrown W0 dq osq).mono hB0.size)
  clear x0 x1 x2 x3 x1' x2' b0 hup
  generalize grow (redrawn W0 dq) osq = W2 at *
  go_wp2
  go_ret
  exact ⟨rfl, hB2⟩

set_option maxHeartbeats 4000000 in
set_option maxRecDepth 100000 in
theorem refDust_any (f m d l n : Int) (w : World) (hn : -9223372036854775808 ≤ n ∧ n ≤ 9223372036854775807) :
    Calls Try.prog 19 #[.agg #[.int .i64 f, .int .i64 m, .int .i64 d, .int .i64 l], .int .i64 n] w (IntErr (DustIs f m d l n) w) := by
  have hv := Lib.hid fun W => refMill_any f m d l W
  go_enter Try.func19, Try.ntmps19
  go_wp2_with fail
  refine calls_world (fun W => Below w.heap.size w W ∧ Blk W w.heap.size 37 #[.int .i64 f, .int .i64 m, .int .i64 d, .int .i64 l]) ⟨(Below.refl _ _).alloc (Nat.le_refl _) _, Blk.new _ _ _⟩ ?_
  rintro W0 ⟨hB0, b0⟩
  refine (hv.out _).mono ?_
  rintro e W1 ⟨r, rfl, hr, hb⟩
  replace b0 := b0.below hb b0.lt
  have hB := hB0.trans (hb.mono hB0.size)
  clear hb hB0 hv
  obtain ⟨x0, x1, x2, x3, _, _, _, _⟩ := b0.facts4
  cases r with
  | false =>
    have hnf := Lib.hid (show DustIs f m d l n 0 1 from .inl ⟨fun h => Bool.noConfusion (hr.2 h), rfl, rfl⟩)
    clear hr
    go_wp2_with fail
    go_ret2
    exact ⟨_, _, rfl, hnf.out, hB⟩
  | true =>
    have hok := hr.1 rfl
    clear hr
    have hin := Lib.hid fun W => refin_any n 0 65536 W
    go_wp2_with fail
    refine (hin.out _).mono ?_
    rintro e W2 ⟨r, rfl, hr, hb⟩
    replace b0 := b0.below hb b0.lt
    replace hB := hB.trans (hb.mono hB.size)
    clear hb hin x0 x1 x2 x3
    obtain ⟨x0, x1, x2, x3, _, _, _, _⟩ := b0.facts4
    cases r with
    | false =>
      have hnf := Lib.hid (show DustIs f m d l n 0 2 from .inr ⟨hok, .inl ⟨fun h => Bool.noConfusion (hr.2 h), rfl, rfl⟩⟩)
      clear hr hok
      go_wp2_with fail
      go_ret2
      exact ⟨_, _, rfl, hnf.out, hB⟩
    | true =>
      have hrr := hr.1 rfl
      obtain ⟨c1, c2⟩ := hrr
      clear hr
      obtain ⟨N, rfl⟩ : ∃ N : Nat, n = N := ⟨n.toNat, by omega⟩
      have hnf := Lib.hid fun a (h : a = dustR m d N f) => (show DustIs f m d l N a 0 from .inr ⟨hok, .inr ⟨by omega, by simpa using h, rfl⟩⟩)
      have hml := Lib.hid fun (c u : Int) W (h0 : 0 ≤ c) (h1 : c ≤ 1073741824) (hu : Hid (laterM m d c = u)) => reflater_any f m d l c u W hok h0 h1 hu
      obtain ⟨⟨f0, f1⟩, ⟨m0, m1⟩, _, d0, d1⟩ := hok
      have hlb := Lib.hid fun (c : Int) (h0 : 0 ≤ c) => later_bd m0 d0 d1 h0
      clear hn
      go_wp2_with fail
      go_loopw [6, 7] (fun c i wr => ∃ (k : Nat) (cc : Int), k ≤ N ∧ i = .int .i64 k ∧ c = .int .i64 cc ∧ 0 ≤ cc ∧ cc ≤ 1073741824 ∧ Below w.heap.size w wr ∧ Blk wr w.heap.size 37 #[.int .i64 f, .int .i64 m, .int .i64 d, .int .i64 l] ∧ Hid (dustR m d N f = dustR m d (N - k) cc)) (fun _ i _ => N - (intOf i).toNat)
      case atStart => exact ⟨0, f, Nat.zero_le _, rfl, rfl, f0, f1, hB, b0, Lib.hid rfl⟩
      case round =>
        clear hB b0 x0 x1 x2 x3
        obtain ⟨k, cc, hk, rfl, rfl, q0, q1, hB, b0, hd⟩ := hrel
        obtain ⟨x0, x1, x2, x3, _, _, _, _⟩ := b0.facts4
        by_cases hlt : k < N
        · obtain ⟨t, ht⟩ : ∃ t, N - k = t + 1 := ⟨N - k - 1, by omega⟩
          obtain ⟨u, hu⟩ : ∃ u, laterM m d cc = u := ⟨_, rfl⟩
          have hd2 := hd.out
          rw [ht, dustR, hu] at hd2
          have hub := hlb.out cc q0
          rw [hu] at hub
          have hu0 := hub.1
          have hu1 := hub.2.1
          have hm1 := Lib.hid fun W => hml.out cc u W q0 q1 (Lib.hid hu)
          have ht' : N - (k + 1) = t := by omega
          rw [← ht'] at hd2
          clear hub hd hu ht ht'
          replace hd2 := Lib.hid hd2
          go_wp2_with fail
          refine (hm1.out _).mono ?_
          rintro e W2 ⟨rfl, hb⟩
          replace b0 := b0.below hb b0.lt
          replace hB := hB.trans (hb.mono hB.size)
          clear hb hm1 x0 x1 x2 x3
          by_cases c3 : 1073741824 < u
          · have c3' : decide (1073741824 < u) = true := by simpa using c3
            replace hnf := Lib.hid (hnf.out 1073741824 (by rw [hd2.out, if_pos c3]))
            clear hd2 hml
            go_wp2_with fail
            go_ret2
            exact ⟨_, _, rfl, hnf.out, hB⟩
          · have c3' : decide (1073741824 < u) = false := by simpa using c3
            replace hd2 := Lib.hid (hd2.out.trans (if_neg c3))
            go_wp2_with fail
            go_roundw
            case rel => exact ⟨k + 1, u, by omega, by go_num, rfl, hu0, by omega, hB, b0, hd2⟩
            case measure => simp [intOf]; omega
        · have hk' : k = N := by omega
          subst hk'
          have hd2 := hd.out
          rw [Nat.sub_self, dustR] at hd2
          replace hnf := Lib.hid (hnf.out cc hd2.symm)
          clear hd hd2 hml
          go_wp2_with fail
          go_ret2
          exact ⟨_, _, rfl, hnf.out, hB⟩

set_option maxHeartbeats 8000000 in
set_option maxRecDepth 100000 in
theorem refHarm_any (f m d l : Int) (w : World) : Calls Try.prog 21 #[.agg #[.int .i64 f, .int .i64 m, .int .i64 d, .int .i64 l]] w (IntErr (HarmIs f m d l) w) := by
  have hv := Lib.hid fun W => refMill_any f m d l W
  go_enter Try.func21, Try.ntmps21
  go_wp2_with fail
  refine calls_world (fun W => Below w.heap.size w W ∧ Blk W w.heap.size 37 #[.int .i64 f, .int .i64 m, .int .i64 d, .int .i64 l]) ⟨(Below.refl _ _).alloc (Nat.le_refl _) _, Blk.new _ _ _⟩ ?_
  rintro W0 ⟨hB0, b0⟩
  refine (hv.out _).mono ?_
  rintro e W1 ⟨r, rfl, hr, hb⟩
  replace b0 := b0.below hb b0.lt
  have hB := hB0.trans (hb.mono hB0.size)
  clear hb hB0 hv
  obtain ⟨x0, x1, x2, x3, _, _, _, _⟩ := b0.facts4
  cases r with
  | false =>
    have hnf := Lib.hid (show HarmIs f m d l 0 1 from .inl ⟨fun h => Bool.noConfusion (hr.2 h), rfl, rfl⟩)
    clear hr
    go_wp2_with fail
    go_ret2
    exact ⟨_, _, rfl, hnf.out, hB⟩
  | true =>
    have hok := hr.1 rfl
    clear hr
    have hnf := Lib.hid fun n k (h : Harms f m d l n k) => (show HarmIs f m d l n k from .inr ⟨hok, h⟩)
    have hml := Lib.hid fun (c u : Int) W (h0 : 0 ≤ c) (h1 : c ≤ 1073741824) (hu : Hid (laterM m d c = u)) => reflater_any f m d l c u W hok h0 h1 hu
    obtain ⟨⟨f0, f1⟩, ⟨m0, m1⟩, ⟨l0, l1⟩, d0, d1⟩ := hok
    have hlb := Lib.hid fun (c : Int) (h0 : 0 ≤ c) => later_bd m0 d0 d1 h0
    have hst := Lib.hid fun (j : Nat) (hl : ∀ i, i ≤ j → iterM m d i f ≤ l) (h : laterM m d (iterM m d j f) ≤ iterM m d j f) => harm_still m0 d0 d1 f0 j hl h
    have hnx := Lib.hid fun (j : Nat) => @iter_succ m d j f
    have h0 := Lib.hid (show f = iterM m d 0 f from rfl)
    go_wp2_with fail
    go_loopw [4, 5] (fun c i wr => ∃ (k : Nat) (cc : Int), i = .int .i64 k ∧ c = .int .i64 cc ∧ 0 ≤ cc ∧ cc ≤ 2147483648 ∧ k ≤ cc - f ∧ Below w.heap.size w wr ∧ Blk wr w.heap.size 37 #[.int .i64 f, .int .i64 m, .int .i64 d, .int .i64 l] ∧ Hid (cc = iterM m d k f) ∧ Hid (∀ i, i < k → iterM m d i f ≤ l)) (fun c _ _ => (2147483649 - intOf c).toNat)
    case atStart => exact ⟨0, f, rfl, rfl, f0, by omega, by omega, hB, b0, h0, Lib.hid fun i hi => absurd hi (Nat.not_lt_zero _)⟩
    case round =>
      clear hB b0 x0 x1 x2 x3 h0
      obtain ⟨k, cc, rfl, rfl, g0, g1, g2, hB, b0, hcc, hall⟩ := hrel
      obtain ⟨x0, x1, x2, x3, _, _, _, _⟩ := b0.facts4
      by_cases c1 : l < cc
      · have c1' : decide (l < cc) = true := by simpa using c1
        replace hnf := Lib.hid (hnf.out k 0 (.inr ⟨rfl, by omega, by rw [Int.toNat_natCast, ← hcc.out]; exact c1, fun i hi => hall.out i (by simpa using hi)⟩))
        clear hml hst hnx hall hcc
        go_wp2_with fail
        go_ret2
        exact ⟨_, _, rfl, hnf.out, hB⟩
      · have c1' : decide (l < cc) = false := by simpa using c1
        obtain ⟨u, hu⟩ : ∃ u, laterM m d cc = u := ⟨_, rfl⟩
        have hall2 : ∀ i, i < k + 1 → iterM m d i f ≤ l := fun i hi => by
          rcases Nat.lt_or_ge i k with h | h
          · exact hall.out i h
          · have : i = k := by omega
            rw [this, ← hcc.out]; omega
        have hub := hlb.out cc g0
        rw [hu] at hub
        have hu0 := hub.1
        have hu1 := hub.2.1
        have hm1 := Lib.hid fun W => hml.out cc u W g0 (by omega) (Lib.hid hu)
        have hcc2 : u = iterM m d (k + 1) f := by rw [hnx.out k, ← hcc.out]; exact hu.symm
        have hdie := Lib.hid fun (h : u ≤ cc) => hnf.out 0 4 (hst.out k (fun i hi => hall2 i (by omega)) (by rw [← hcc.out, hu]; exact h))
        replace hcc2 := Lib.hid hcc2
        replace hall2 := Lib.hid hall2
        clear hub hu hcc hall
        go_wp2_with fail
        refine (hm1.out _).mono ?_
        rintro e W2 ⟨rfl, hb⟩
        replace b0 := b0.below hb b0.lt
        replace hB := hB.trans (hb.mono hB.size)
        clear hb hm1 x0 x1 x2 x3
        by_cases c2 : u ≤ cc
        · have c2' : decide (u ≤ cc) = true := by simpa using c2
          replace hdie := Lib.hid (hdie.out c2)
          clear hnf hml hst hnx hall2 hcc2
          go_wp2_with fail
          go_ret2
          exact ⟨_, _, rfl, hdie.out, hB⟩
        · have c2' : decide (u ≤ cc) = false := by simpa using c2
          go_wp2_with fail
          go_roundw
          case rel => exact ⟨k + 1, u, by go_num, rfl, hu0, by omega, by omega, hB, b0, hcc2, hall2⟩
          case measure => simp [intOf]; omega

set_option maxHeartbeats 1000000 in
theorem refspan_any (lo hi m : Int) (w : World) : Calls Try.prog 53 #[.agg #[.int .i64 lo, .int .i64 hi], .int .i64 m] w (SomeBool (SpOk lo hi m) w) := by
  by_cases c1 : 0 ≤ lo
  · have c1' : decide (0 ≤ lo) = true := by simpa using c1
    by_cases c2 : lo ≤ hi
    · have c2' : decide (lo ≤ hi) = true := by simpa using c2
      by_cases c3 : hi ≤ m
      · have c3' : decide (hi ≤ m) = true := by simpa using c3
        have hf := Lib.hid (show SpOk lo hi m from ⟨c1, c2, c3⟩)
        go_enter Try.func53, Try.ntmps53
        go_wp2
        go_ret
        exact SomeBool.yes hf.out ((Below.refl _ _).alloc (Nat.le_refl _) _)
      · have c3' : decide (hi ≤ m) = false := by simpa using c3
        have hf := Lib.hid (show ¬ SpOk lo hi m from fun h => c3 h.2.2)
        go_enter Try.func53, Try.ntmps53
        go_wp2
        go_ret
        exact SomeBool.no hf.out ((Below.refl _ _).alloc (Nat.le_refl _) _)
    · have c2' : decide (lo ≤ hi) = false := by simpa using c2
      have hf := Lib.hid (show ¬ SpOk lo hi m from fun h => c2 h.2.1)
      go_enter Try.func53, Try.ntmps53
      go_wp2
      go_ret
      exact SomeBool.no hf.out ((Below.refl _ _).alloc (Nat.le_refl _) _)
  · have c1' : decide (0 ≤ lo) = false := by simpa using c1
    have hf := Lib.hid (show ¬ SpOk lo hi m from fun h => c1 h.1)
    go_enter Try.func53, Try.ntmps53
    go_wp2
    go_ret
    exact SomeBool.no hf.out ((Below.refl _ _).alloc (Nat.le_refl _) _)

set_option maxHeartbeats 2000000 in
theorem refMalt_any (d1 d2 w1 w2 p1 p2 : Int) (w : World) : Calls Try.prog 25 #[.agg #[.int .i64 d1, .int .i64 d2, .int .i64 w1, .int .i64 w2, .int .i64 p1, .int .i64 p2]] w (SomeBool (MaltOk d1 d2 w1 w2 p1 p2) w) := by
  have h1 := Lib.hid fun W => refspan_any d1 d2 1099511627776 W
  have h2 := Lib.hid fun W => refspan_any w1 w2 1099511627776 W
  have h3 := Lib.hid fun W => refspan_any p1 p2 1099511627776 W
  go_enter Try.func25, Try.ntmps25
  go_wp2_with fail
  refine calls_world (fun W => Below w.heap.size w W ∧ Blk W w.heap.size 25 #[.int .i64 d1, .int .i64 d2, .int .i64 w1, .int .i64 w2, .int .i64 p1, .int .i64 p2]) ⟨(Below.refl _ _).alloc (Nat.le_refl _) _, Blk.new _ _ _⟩ ?_
  rintro W0 ⟨hB0, b0⟩
  refine (h1.out _).mono ?_
  rintro e W1 ⟨r, rfl, hr, hb1⟩
  have hB1 := hB0.trans (hb1.mono hB0.size)
  replace b0 := b0.below hb1 b0.lt
  have x2 : _ = some _ := b0.cell 2
  have x3 : _ = some _ := b0.cell 3
  clear hb1 hB0 h1
  cases r with
  | false =>
    replace hr := Lib.hid (fun h => Bool.noConfusion (hr.2 h) : ¬ _)
    go_wp2
    go_ret
    exact SomeBool.no (fun h => hr.out h.1) hB1
  | true =>
    replace hr := Lib.hid (hr.1 rfl)
    go_wp2_with fail
    refine (h2.out _).mono ?_
    rintro e W2 ⟨q, rfl, hq, hb2⟩
    have hB2 := hB1.trans (hb2.mono hB1.size)
    replace b0 := b0.below hb2 b0.lt
    clear hb2 hB1 h2 x2 x3
    have x4 : _ = some _ := b0.cell 4
    have x5 : _ = some _ := b0.cell 5
    cases q with
    | false =>
      replace hq := Lib.hid (fun h => Bool.noConfusion (hq.2 h) : ¬ _)
      go_wp2
      go_ret
      exact SomeBool.no (fun h => hq.out h.2.1) hB2
    | true =>
      replace hq := Lib.hid (hq.1 rfl)
      go_wp2_with fail
      refine (h3.out _).mono ?_
      rintro e W3 ⟨s, rfl, hs, hb3⟩
      have hB3 := hB2.trans (hb3.mono hB2.size)
      replace hs := Lib.hid hs
      go_wp2
      go_ret
      exact ⟨s, rfl, ⟨fun h => ⟨hr.out, hq.out, hs.out.1 h⟩, fun h => hs.out.2 h.2.2⟩, hB3⟩

end Go.Proofs.Ytdadpfgcjffclaa
