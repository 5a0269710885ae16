/- Harm, whatever the mill is. -/
import Derived.Test.YtdadpfgcjffclaaMill
namespace Go.Proofs.Ytdadpfgcjffclaa
open Go.RowKit Go.Sort
attribute [local go_sem] Oper.calm Oper.calmAt Oper.calmUpon

set_option maxHeartbeats 8000000 in
set_option maxRecDepth 100000 in
theorem Harm_any (f m d l : Int) (w : World) : Calls Try.prog 20 #[.agg #[.int .i64 f, .int .i64 m, .int .i64 d, .int .i64 l]] w (IntErr (HarmIs f m d l) w) := by
  have hv := Lib.hid fun W => validMill_any f m d l W
  go_enter Try.func20, Try.ntmps20
  go_wp2_with fail
  refine calls_world (fun W => Below w.heap.size w W ∧ Blk W w.heap.size 37 #[.int .i64 f, .int .i64 m, .int .i64 d, .int .i64 l]) ⟨(Below.refl _ _).alloc (Nat.le_refl _) _, Blk.new _ _ _⟩ ?_
  rintro W0 ⟨hB0, b0⟩
  refine (hv.out _).mono ?_
  rintro e W1 ⟨r, rfl, hr, hb⟩
  replace b0 := b0.below hb b0.lt
  have hB := hB0.trans (hb.mono hB0.size)
  clear hb hB0 hv
  obtain ⟨x0, x1, x2, x3, _, _, _, _⟩ := b0.facts4
  cases r with
  | false =>
    have hnf := Lib.hid (show HarmIs f m d l 0 1 from .inl ⟨fun h => Bool.noConfusion (hr.2 h), rfl, rfl⟩)
    clear hr
    go_wp2_with fail
    go_ret2
    exact ⟨_, _, rfl, hnf.out, hB⟩
  | true =>
    have hok := hr.1 rfl
    clear hr
    have hnf := Lib.hid fun n k (h : Harms f m d l n k) => (show HarmIs f m d l n k from .inr ⟨hok, h⟩)
    have hml := Lib.hid fun (c u : Int) W (h0 : 0 ≤ c) (h1 : c ≤ 1073741824) (hu : Hid (laterM m d c = u)) => minuteLater_any f m d l c u W hok h0 h1 hu
    obtain ⟨⟨f0, f1⟩, ⟨m0, m1⟩, ⟨l0, l1⟩, d0, d1⟩ := hok
    by_cases c : d = 0 ∧ 0 < m ∧ f ≤ l
    · obtain ⟨rfl, c2, c3⟩ := c
      have q1 : decide (0 < m) = true := by simpa using c2
      have q2 : decide (f ≤ l) = true := by simpa using c3
      replace hnf := Lib.hid (hnf.out _ _ (harm_steady c2 c3))
      have e0 : 0 ≤ (l - f) / m := Int.ediv_nonneg (by omega) (by omega)
      have e1 : (l - f) / m ≤ l - f := Int.ediv_le_self _ (by omega)
      have e2 : (l - f).tdiv m = (l - f) / m := Int.tdiv_eq_ediv_of_nonneg (by omega)
      have hmne : ¬ m = 0 := by omega
      obtain ⟨q, hq⟩ : ∃ q, (l - f) / m = q := ⟨_, rfl⟩
      rw [hq] at e0 e1 e2 hnf
      clear hml hq
      go_wp2_with fail
      go_ret2
      exact ⟨_, _, rfl, hnf.out, hB⟩
    · have hcond : ((d == 0) = false) ∨ ((d == 0) = true ∧ decide (0 < m) = false) ∨ ((d == 0) = true ∧ decide (0 < m) = true ∧ decide (f ≤ l) = false) := by
        by_cases h : d = 0
        · by_cases h2 : 0 < m
          · exact .inr (.inr ⟨by simpa using h, by simpa using h2, by simpa using fun h3 => c ⟨h, h2, h3⟩⟩)
          · exact .inr (.inl ⟨by simpa using h, by simpa using h2⟩)
        · exact .inl (by simpa using h)
      have hlb := Lib.hid fun (c : Int) (h0 : 0 ≤ c) => later_bd m0 d0 d1 h0
      have hst := Lib.hid fun (j : Nat) (hl : ∀ i, i ≤ j → iterM m d i f ≤ l) (h : laterM m d (iterM m d j f) ≤ iterM m d j f) => harm_still m0 d0 d1 f0 j hl h
      have hnx := Lib.hid fun (j : Nat) => @iter_succ m d j f
      have h0 := Lib.hid (show f = iterM m d 0 f from rfl)
      clear c
      rcases hcond with q1 | ⟨q1, q2⟩ | ⟨q1, q2, q3⟩
      all_goals
        go_wp2_with fail
        go_loopw [4, 5] (fun c i wr => ∃ (k : Nat) (cc : Int), i = .int .i64 k ∧ c = .int .i64 cc ∧ 0 ≤ cc ∧ cc ≤ 2147483648 ∧ k ≤ cc - f ∧ Below w.heap.size w wr ∧ Blk wr w.heap.size 37 #[.int .i64 f, .int .i64 m, .int .i64 d, .int .i64 l] ∧ Hid (cc = iterM m d k f) ∧ Hid (∀ i, i < k → iterM m d i f ≤ l)) (fun c _ _ => (2147483649 - intOf c).toNat)
        case atStart => exact ⟨0, f, rfl, rfl, f0, by omega, by omega, hB, b0, h0, Lib.hid fun i hi => absurd hi (Nat.not_lt_zero _)⟩
        case round =>
          clear hB b0 x0 x1 x2 x3 h0
          obtain ⟨k, cc, rfl, rfl, g0, g1, g2, hB, b0, hcc, hall⟩ := hrel
          obtain ⟨x0, x1, x2, x3, _, _, _, _⟩ := b0.facts4
          by_cases c1 : l < cc
          · have c1' : decide (l < cc) = true := by simpa using c1
            replace hnf := Lib.hid (hnf.out k 0 (.inr ⟨rfl, by omega, by rw [Int.toNat_natCast, ← hcc.out]; exact c1, fun i hi => hall.out i (by simpa using hi)⟩))
            clear hml hst hnx hall hcc
            go_wp2_with fail
            go_ret2
            exact ⟨_, _, rfl, hnf.out, hB⟩
          · have c1' : decide (l < cc) = false := by simpa using c1
            obtain ⟨u, hu⟩ : ∃ u, laterM m d cc = u := ⟨_, rfl⟩
            have hall2 : ∀ i, i < k + 1 → iterM m d i f ≤ l := fun i hi => by
              rcases Nat.lt_or_ge i k with h | h
              · exact hall.out i h
              · have : i = k := by omega
                rw [this, ← hcc.out]; omega
            have hub := hlb.out cc g0
            rw [hu] at hub
            have hu0 := hub.1
            have hu1 := hub.2.1
            have hm1 := Lib.hid fun W => hml.out cc u W g0 (by omega) (Lib.hid hu)
            have hcc2 : u = iterM m d (k + 1) f := by rw [hnx.out k, ← hcc.out]; exact hu.symm
            have hdie := Lib.hid fun (h : u ≤ cc) => hnf.out 0 4 (hst.out k (fun i hi => hall2 i (by omega)) (by rw [← hcc.out, hu]; exact h))
            replace hcc2 := Lib.hid hcc2
            replace hall2 := Lib.hid hall2
            clear hub hu hcc hall
            go_wp2_with fail
            refine (hm1.out _).mono ?_
            rintro e W2 ⟨rfl, hb⟩
            replace b0 := b0.below hb b0.lt
            replace hB := hB.trans (hb.mono hB.size)
            clear hb hm1 x0 x1 x2 x3
            by_cases c2 : u ≤ cc
            · have c2' : decide (u ≤ cc) = true := by simpa using c2
              replace hdie := Lib.hid (hdie.out c2)
              clear hnf hml hst hnx hall2 hcc2
              go_wp2_with fail
              go_ret2
              exact ⟨_, _, rfl, hdie.out, hB⟩
            · have c2' : decide (u ≤ cc) = false := by simpa using c2
              go_wp2_with fail
              go_roundw
              case rel => exact ⟨k + 1, u, by go_num, rfl, hu0, by omega, by omega, hB, b0, hcc2, hall2⟩
              case measure => simp [intOf]; omega
end Go.Proofs.Ytdadpfgcjffclaa
