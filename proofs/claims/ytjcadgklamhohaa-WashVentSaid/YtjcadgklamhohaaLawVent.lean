/- WashVent returns true, whatever comes in and whatever the limit is. -/
import Derived.Test.YtjcadgklamhohaaAlive
namespace Go.Proofs.Ytjcadgklamhohaa
open Go.RowKit Go.Sort
attribute [local go_sem] Oper.calm Oper.calmAt Oper.calmUpon

set_option maxHeartbeats 4000000 in
set_option maxRecDepth 100000 in
theorem law_vent (m l : Int) (w : World) :
    Calls Try.prog 14 #[.int .i64 m, .int .i64 l] w fun e w' => e = .returned (.bool true) ∧ Below w.heap.size w w' := by
  have h1 := Lib.hid fun W => Vent_any m l W
  have h2 := Lib.hid fun v W => Bound_any m v W
  have h3 := Lib.hid alive_any
  go_enter Try.func14, Try.ntmps14
  go_wp2_with fail
  refine (h1.out _).mono ?_
  rintro e W1 ⟨v, k, rfl, hr, hB⟩
  clear h1
  rcases hr with ⟨_, rfl, rfl⟩ | ⟨⟨⟨m0, m1⟩, l0, l1⟩, ⟨rfl, rfl, hno⟩ | ⟨rfl, v0, v1, ⟨he, he'⟩, hno⟩⟩
  · go_wp2_with fail
    refine (h3.out _).mono ?_
    rintro e W2 ⟨rfl, hb⟩
    go_wp2_with fail
    go_ret
    exact ⟨rfl, hB.trans (hb.mono hB.size)⟩
  · have hlm : decide (l < m) = true := by
      have := hno 1000 (by omega) (by omega)
      simp only [decide_eq_true_eq]
      rcases Int.lt_or_le l m with h | h
      · exact h
      · refine absurd ⟨.inl (by omega), ?_⟩ this
        have : boundR m 1000 ≤ 0 := by
          unfold boundR
          split
          · omega
          · exact upQ_le (by omega) (by omega)
        omega
    clear hno m0 m1 l0 l1
    go_wp2_with fail
    refine (h3.out _).mono ?_
    rintro e W2 ⟨rfl, hb⟩
    go_wp2_with fail
    go_ret
    exact ⟨rfl, hB.trans (hb.mono hB.size)⟩
  · go_wp2_with fail
    refine (h2.out _ _).mono ?_
    rintro e W2 ⟨b, j, rfl, hr, hb⟩
    replace hB := hB.trans (hb.mono hB.size)
    clear hb
    rcases hr with ⟨h, _⟩ | ⟨_, ⟨h, h', _⟩ | ⟨_, hbv, rfl⟩⟩
    · exact absurd ⟨⟨m0, m1⟩, v0, v1⟩ h
    · exact absurd he (by omega)
    · have hbd := bound_bd ⟨m0, m1⟩ ⟨v0, v1⟩ he
      rw [← hbv] at hbd he'
      have r1 : IntKind.i64.wrap (b + m) = b + m := IntWalk.i64_in _ (by omega)
      have q1 : decide (l < b + m) = false := by simpa using he'
      by_cases hv : v = 0
      · have q2 : (v == 0) = true := by simpa using hv
        have q3 : (m == 0) = true := by simp; omega
        clear hno he he' hbv hbd hv v0 v1 h2
        go_wp2_with fail
        refine (h3.out _).mono ?_
        rintro e W3 ⟨rfl, hb⟩
        go_wp2_with fail
        go_ret
        exact ⟨rfl, hB.trans (hb.mono hB.size)⟩
      · have q2 : (v == 0) = false := by simpa using hv
        have r2 : IntKind.i64.wrap (v - 1) = v - 1 := IntWalk.i64_in _ (by omega)
        have hn := hno (v - 1) (by omega) (by omega)
        clear hno he he' hbv hbd
        go_wp2_with fail
        refine (h2.out _ _).mono ?_
        rintro e W3 ⟨c, j, rfl, hr, hb⟩
        replace hB := hB.trans (hb.mono hB.size)
        clear hb h2 r1 q1 q2 r2
        rcases hr with ⟨h, _⟩ | ⟨_, ⟨_, _, rfl, rfl⟩ | ⟨hc, hcv, rfl⟩⟩
        · exact absurd ⟨⟨m0, m1⟩, by omega, by omega⟩ h
        · clear hn v0 v1 hv
          go_wp2_with fail
          refine (h3.out _).mono ?_
          rintro e W4 ⟨rfl, hb⟩
          go_wp2_with fail
          go_ret
          exact ⟨rfl, hB.trans (hb.mono hB.size)⟩
        · have hbd := bound_bd ⟨m0, m1⟩ ⟨show 0 ≤ v - 1 by omega, by omega⟩ hc
          rw [← hcv] at hbd
          have r1 : IntKind.i64.wrap (c + m) = c + m := IntWalk.i64_in _ (by omega)
          have q1 : decide (l < c + m) = true := by
            simp only [decide_eq_true_eq]
            rcases Int.lt_or_le l (c + m) with h | h
            · exact h
            · exact absurd ⟨hc, by rw [← hcv]; exact h⟩ hn
          clear hn hcv hbd hc hv v0 v1
          go_wp2_with fail
          refine (h3.out _).mono ?_
          rintro e W4 ⟨rfl, hb⟩
          go_wp2_with fail
          go_ret
          exact ⟨rfl, hB.trans (hb.mono hB.size)⟩
end Go.Proofs.Ytjcadgklamhohaa
