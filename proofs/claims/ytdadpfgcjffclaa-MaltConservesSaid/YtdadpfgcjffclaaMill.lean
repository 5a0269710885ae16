/- validMill, minuteLater, Dust, Harm, whatever the mill is. -/
import Derived.Test.YtdadpfgcjffclaaSmall
import Derived.Test.YtdadpfgcjffclaaToo
namespace Go.Proofs.Ytdadpfgcjffclaa
open Go.RowKit Go.Sort
attribute [local go_sem] Oper.calm Oper.calmAt Oper.calmUpon

set_option maxHeartbeats 4000000 in
set_option maxRecDepth 100000 in
theorem validMill_any (f m d l : Int) (w : World) : Calls Try.prog 44 #[.agg #[.int .i64 f, .int .i64 m, .int .i64 d, .int .i64 l]] w (SomeBool (MillOk f m d l) w) := by
  have hno := Lib.hid fun (h : ¬ MillOk f m d l) W (hB : Below w.heap.size w W) => SomeBool.no h hB
  have hix0 : ∀ w : World, (Instr.index 96 (.agg #[.int .i64 f, .int .i64 m, .int .i64 l]) (.int .i64 0)).run Try.prog w = .ok (.int .i64 f) w := fun _ => rfl
  have hix1 : ∀ w : World, (Instr.index 96 (.agg #[.int .i64 f, .int .i64 m, .int .i64 l]) (.int .i64 1)).run Try.prog w = .ok (.int .i64 m) w := fun _ => rfl
  have hix2 : ∀ w : World, (Instr.index 96 (.agg #[.int .i64 f, .int .i64 m, .int .i64 l]) (.int .i64 2)).run Try.prog w = .ok (.int .i64 l) w := fun _ => rfl
  go_enter Try.func44, Try.ntmps44
  go_wp2
  refine wp_loop_rounds 4 ?_
  refine rounds_world (fun W => Below w.heap.size w W ∧ Blk W w.heap.size 37 #[.int .i64 f, .int .i64 m, .int .i64 d, .int .i64 l]) ⟨(Below.refl _ _).alloc (Nat.le_refl _) _, Blk.new _ _ _⟩ ?_
  rintro W0 ⟨hB0, b0⟩
  obtain ⟨x0, x1, x2, x3, _, _, _, _⟩ := b0.facts4
  by_cases c0 : f < 0
  · have c0' : decide (f < 0) = true := by simpa using c0
    replace hno := Lib.hid (hno.out (fun h => by have := h.1.1; omega))
    clear c0
    rw [rounds_succ]
    go_wp2
    go_ret
    exact hno.out _ hB0
  have c0' : decide (f < 0) = false := by simpa using c0
  by_cases k0 : 1073741824 < f
  · have k0' : decide (1073741824 < f) = true := by simpa using k0
    replace hno := Lib.hid (hno.out (fun h => by have := h.1.2; omega))
    clear k0 c0
    rw [rounds_succ]
    go_wp2
    go_ret
    exact hno.out _ hB0
  have k0' : decide (1073741824 < f) = false := by simpa using k0
  rw [rounds_succ]
  go_wp2
  by_cases c1 : m < 0
  · have c1' : decide (m < 0) = true := by simpa using c1
    replace hno := Lib.hid (hno.out (fun h => by have := h.2.1.1; omega))
    clear c1
    rw [rounds_succ]
    go_wp2
    go_ret
    exact hno.out _ hB0
  have c1' : decide (m < 0) = false := by simpa using c1
  by_cases k1 : 1073741824 < m
  · have k1' : decide (1073741824 < m) = true := by simpa using k1
    replace hno := Lib.hid (hno.out (fun h => by have := h.2.1.2; omega))
    clear k1 c1
    rw [rounds_succ]
    go_wp2
    go_ret
    exact hno.out _ hB0
  have k1' : decide (1073741824 < m) = false := by simpa using k1
  rw [rounds_succ]
  go_wp2
  by_cases c2 : l < 0
  · have c2' : decide (l < 0) = true := by simpa using c2
    replace hno := Lib.hid (hno.out (fun h => by have := h.2.2.1.1; omega))
    clear c2
    rw [rounds_succ]
    go_wp2
    go_ret
    exact hno.out _ hB0
  have c2' : decide (l < 0) = false := by simpa using c2
  by_cases k2 : 1073741824 < l
  · have k2' : decide (1073741824 < l) = true := by simpa using k2
    replace hno := Lib.hid (hno.out (fun h => by have := h.2.2.1.2; omega))
    clear k2 c2
    rw [rounds_succ]
    go_wp2
    go_ret
    exact hno.out _ hB0
  have k2' : decide (1073741824 < l) = false := by simpa using k2
  rw [rounds_succ]
  go_wp2
  by_cases c3 : 0 ≤ d
  · have c3' : decide (0 ≤ d) = true := by simpa using c3
    by_cases k3 : d ≤ 10000
    · have k3' : decide (d ≤ 10000) = true := by simpa using k3
      have hy := Lib.hid (show MillOk f m d l from ⟨⟨by omega, by omega⟩, ⟨by omega, by omega⟩, ⟨by omega, by omega⟩, c3, k3⟩)
      clear c0 c1 c2 k0 k1 k2 c3 k3
      rw [rounds_succ]
      go_wp2
      go_ret
      exact SomeBool.yes hy.out hB0
    · have k3' : decide (d ≤ 10000) = false := by simpa using k3
      replace hno := Lib.hid (hno.out (fun h => k3 h.2.2.2.2))
      clear c0 c1 c2 k0 k1 k2 c3 k3
      rw [rounds_succ]
      go_wp2
      go_ret
      exact hno.out _ hB0
  · have c3' : decide (0 ≤ d) = false := by simpa using c3
    replace hno := Lib.hid (hno.out (fun h => c3 h.2.2.2.1))
    clear c0 c1 c2 k0 k1 k2 c3
    rw [rounds_succ]
    go_wp2
    go_ret
    exact hno.out _ hB0

set_option maxHeartbeats 1000000 in
theorem minuteLater_any (f m d l c u : Int) (w : World) (h : MillOk f m d l) (hc : 0 ≤ c) (hc' : c ≤ 1073741824) (hu : Hid (laterM m d c = u)) :
    Calls Try.prog 45 #[.agg #[.int .i64 f, .int .i64 m, .int .i64 d, .int .i64 l], .int .i64 c] w fun e w' => e = .returned (.int .i64 u) ∧ Below w.heap.size w w' := by
  obtain ⟨_, ⟨m0, m1⟩, _, d0, d1⟩ := h
  have e1 := later_bd m0 d0 d1 hc
  have e2 := e1.2.2
  have e3 := e1.2.1
  have e4 := e1.1
  have hu' := hu.out
  unfold laterM at hu' e3 e4
  obtain ⟨q, hq⟩ : ∃ q, upQ ((10000 - d) * c) 10000 = q := ⟨_, rfl⟩
  rw [hq] at hu' e3 e4
  have hup := Lib.hid fun W => up_any ((10000 - d) * c) 10000 q W e2.1 (by omega) (by omega) (Lib.hid hq)
  have r1 : IntKind.i64.wrap (10000 - d) = 10000 - d := IntWalk.i64_in _ (by omega)
  have r2 : IntKind.i64.wrap ((10000 - d) * c) = (10000 - d) * c := IntWalk.i64_in _ (by omega)
  have hqb := upQ_bd (b := 10000) (by omega) e2.1
  rw [hq] at hqb
  have r3 : IntKind.i64.wrap (q + m) = u := by rw [IntWalk.i64_in _ (by omega)]; exact hu'
  have r4 : IntKind.i64.wrap u = u := IntWalk.i64_in _ (by omega)
  clear e1 e2 e3 e4 hu hq hqb hu'
  go_enter Try.func45, Try.ntmps45
  go_upto_region 1 with fail
  refine wp_world (fun W => Below w.heap.size w W ∧ Blk W w.heap.size 37 #[.int .i64 f, .int .i64 m, .int .i64 d, .int .i64 l]) ⟨(Below.refl _ _).alloc (Nat.le_refl _) _, Blk.new _ _ _⟩ ?_
  rintro W0 ⟨hB0, b0⟩
  obtain ⟨x0, x1, x2, x3, _, _, _, _⟩ := b0.facts4
  have x1' := fun d os => cell_regrown x1 d os
  have x2' := fun d os => cell_regrown x2 d os
  refine wp_region_quiet_below (by kernel_rfl) (by kernel_rfl) ?_
  repeat (quiet_step (fail))
  quiet_step (first | (go_at_call 41; exact quiet_call (fun W1 _ => hup.out W1)))
  repeat (quiet_step (fail))
  refine wpQuiet_nil ?_
  intro _ hw'
  obtain ⟨⟨dq, osq⟩, hw''⟩ := hw'
  subst hw''
  have hB2 := hB0.trans ((below_regrown W0 dq osq).mono hB0.size)
  clear x0 x1 x2 x3 x1' x2' b0 hup
  generalize grow (redrawn W0 dq) osq = W2 at *
  go_wp2
  go_ret
  exact ⟨rfl, hB2⟩

set_option maxHeartbeats 4000000 in
set_option maxRecDepth 100000 in
theorem Dust_any (f m d l n : Int) (w : World) (hn : -9223372036854775808 ≤ n ∧ n ≤ 9223372036854775807) :
    Calls Try.prog 18 #[.agg #[.int .i64 f, .int .i64 m, .int .i64 d, .int .i64 l], .int .i64 n] w (IntErr (DustIs f m d l n) w) := by
  have hv := Lib.hid fun W => validMill_any f m d l W
  go_enter Try.func18, Try.ntmps18
  go_wp2_with fail
  refine calls_world (fun W => Below w.heap.size w W ∧ Blk W w.heap.size 37 #[.int .i64 f, .int .i64 m, .int .i64 d, .int .i64 l]) ⟨(Below.refl _ _).alloc (Nat.le_refl _) _, Blk.new _ _ _⟩ ?_
  rintro W0 ⟨hB0, b0⟩
  refine (hv.out _).mono ?_
  rintro e W1 ⟨r, rfl, hr, hb⟩
  replace b0 := b0.below hb b0.lt
  have hB := hB0.trans (hb.mono hB0.size)
  clear hb hB0 hv
  obtain ⟨x0, x1, x2, x3, _, _, _, _⟩ := b0.facts4
  cases r with
  | false =>
    have hnf := Lib.hid (show DustIs f m d l n 0 1 from .inl ⟨fun h => Bool.noConfusion (hr.2 h), rfl, rfl⟩)
    clear hr
    go_wp2_with fail
    go_ret2
    exact ⟨_, _, rfl, hnf.out, hB⟩
  | true =>
    have hok := hr.1 rfl
    clear hr
    by_cases c1 : n < 0
    · have c1' : decide (n < 0) = true := by simpa using c1
      have hnf := Lib.hid (show DustIs f m d l n 0 2 from .inr ⟨hok, .inl ⟨by omega, rfl, rfl⟩⟩)
      clear hok
      go_wp2_with fail
      go_ret2
      exact ⟨_, _, rfl, hnf.out, hB⟩
    · have c1' : decide (n < 0) = false := by simpa using c1
      by_cases c2 : 65536 < n
      · have c2' : decide (65536 < n) = true := by simpa using c2
        have hnf := Lib.hid (show DustIs f m d l n 0 2 from .inr ⟨hok, .inl ⟨by omega, rfl, rfl⟩⟩)
        clear hok
        go_wp2_with fail
        go_ret2
        exact ⟨_, _, rfl, hnf.out, hB⟩
      · have c2' : decide (65536 < n) = false := by simpa using c2
        obtain ⟨N, rfl⟩ : ∃ N : Nat, n = N := ⟨n.toNat, by omega⟩
        have hnf := Lib.hid fun a (h : a = dustR m d N f) => (show DustIs f m d l N a 0 from .inr ⟨hok, .inr ⟨by omega, by simpa using h, rfl⟩⟩)
        have hml := Lib.hid fun (c u : Int) W (h0 : 0 ≤ c) (h1 : c ≤ 1073741824) (hu : Hid (laterM m d c = u)) => minuteLater_any f m d l c u W hok h0 h1 hu
        obtain ⟨⟨f0, f1⟩, ⟨m0, m1⟩, _, d0, d1⟩ := hok
        have hlb := Lib.hid fun (c : Int) (h0 : 0 ≤ c) => later_bd m0 d0 d1 h0
        clear hn c1
        go_wp2_with fail
        go_loopw [6, 19] (fun c i wr => ∃ (k : Nat) (cc : Int), k ≤ N ∧ i = .int .i64 k ∧ c = .int .i64 cc ∧ 0 ≤ cc ∧ cc ≤ 1073741824 ∧ Below w.heap.size w wr ∧ Blk wr w.heap.size 37 #[.int .i64 f, .int .i64 m, .int .i64 d, .int .i64 l] ∧ Hid (dustR m d N f = dustR m d (N - k) cc)) (fun _ i _ => N - (intOf i).toNat)
        case atStart => exact ⟨0, f, Nat.zero_le _, rfl, rfl, f0, f1, hB, b0, Lib.hid rfl⟩
        case round =>
          clear hB b0 x0 x1 x2 x3
          obtain ⟨k, cc, hk, rfl, rfl, q0, q1, hB, b0, hd⟩ := hrel
          obtain ⟨x0, x1, x2, x3, _, _, _, _⟩ := b0.facts4
          by_cases hlt : k < N
          · obtain ⟨t, ht⟩ : ∃ t, N - k = t + 1 := ⟨N - k - 1, by omega⟩
            obtain ⟨u, hu⟩ : ∃ u, laterM m d cc = u := ⟨_, rfl⟩
            have hd2 := hd.out
            rw [ht, dustR, hu] at hd2
            have hub := hlb.out cc q0
            rw [hu] at hub
            have hu0 := hub.1
            have hu1 := hub.2.1
            have hm1 := Lib.hid fun W => hml.out cc u W q0 q1 (Lib.hid hu)
            have ht' : N - (k + 1) = t := by omega
            rw [← ht'] at hd2
            clear hub hd hu ht ht'
            replace hd2 := Lib.hid hd2
            go_wp2_with fail
            refine (hm1.out _).mono ?_
            rintro e W2 ⟨rfl, hb⟩
            replace b0 := b0.below hb b0.lt
            replace hB := hB.trans (hb.mono hB.size)
            clear hb hm1 x0 x1 x2 x3
            by_cases c3 : 1073741824 < u
            · have c3' : decide (1073741824 < u) = true := by simpa using c3
              replace hnf := Lib.hid (hnf.out 1073741824 (by rw [hd2.out, if_pos c3]))
              clear hd2 hml
              go_wp2_with fail
              go_ret2
              exact ⟨_, _, rfl, hnf.out, hB⟩
            · have c3' : decide (1073741824 < u) = false := by simpa using c3
              replace hd2 := Lib.hid (hd2.out.trans (if_neg c3))
              go_wp2_with fail
              go_roundw
              case rel => exact ⟨k + 1, u, by omega, by go_num, rfl, hu0, by omega, hB, b0, hd2⟩
              case measure => simp [intOf]; omega
          · have hk' : k = N := by omega
            subst hk'
            have hd2 := hd.out
            rw [Nat.sub_self, dustR] at hd2
            replace hnf := Lib.hid (hnf.out cc hd2.symm)
            clear hd hd2 hml
            go_wp2_with fail
            go_ret2
            exact ⟨_, _, rfl, hnf.out, hB⟩
end Go.Proofs.Ytdadpfgcjffclaa
