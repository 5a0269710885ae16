/- MaltDust returns true, whatever the mill and the minutes are. -/
import Derived.Test.YtdadpfgcjffclaaAwake
import Derived.Test.YtdadpfgcjffclaaRefDust
namespace Go.Proofs.Ytdadpfgcjffclaa
open Go.RowKit Go.Sort
attribute [local go_sem] Oper.calm Oper.calmAt Oper.calmUpon

set_option maxHeartbeats 4000000 in
set_option maxRecDepth 100000 in
theorem law_dust (f m d l n : Int) (w : World) (hn : -9223372036854775808 ≤ n ∧ n ≤ 9223372036854775807) :
    Calls Try.prog 4 #[.agg #[.int .i64 f, .int .i64 m, .int .i64 d, .int .i64 l], .int .i64 n] w fun e w' => e = .returned (.bool true) ∧ Below w.heap.size w w' := by
  have h1 := Lib.hid fun W => Dust_any f m d l n W hn
  have h2 := Lib.hid fun W => refDust_any f m d l n W hn
  have h3 := Lib.hid fun W => Harm_any f m d l W
  have h4 := Lib.hid fun W => refHarm_any f m d l W
  have h5 := Lib.hid awake_any
  clear hn
  go_enter Try.func4, Try.ntmps4
  go_wp2_with fail
  refine calls_world (fun W => Below w.heap.size w W ∧ Blk W w.heap.size 37 #[.int .i64 f, .int .i64 m, .int .i64 d, .int .i64 l]) ⟨(Below.refl _ _).alloc (Nat.le_refl _) _, Blk.new _ _ _⟩ ?_
  rintro W0 ⟨hB, b0⟩
  refine (h1.out _).mono ?_
  rintro e W1 ⟨a, k, rfl, hr, hb⟩
  replace hr := Lib.hid hr
  replace b0 := b0.below hb b0.lt
  replace hB := hB.trans (hb.mono hB.size)
  clear hb h1
  obtain ⟨x0, x1, x2, x3, _, _, _, _⟩ := b0.facts4
  go_wp2_with fail
  refine (h2.out _).mono ?_
  rintro e W2 ⟨a', k', rfl, hr', hb⟩
  obtain ⟨rfl, rfl⟩ := hr.out.uniq hr'
  replace b0 := b0.below hb b0.lt
  replace hB := hB.trans (hb.mono hB.size)
  clear hb h2 hr hr' x0 x1 x2 x3
  obtain ⟨x0, x1, x2, x3, _, _, _, _⟩ := b0.facts4
  by_cases c : d = 0 ∧ 100000 < l ∧ l ≤ 1073741824
  · have q1 : (d == 0) = true := by simpa using c.1
    have q2 : decide (100000 < l) = true := by simpa using c.2.1
    have q3 : decide (l ≤ 1073741824) = true := by simpa using c.2.2
    clear c
    go_wp2_with fail
    refine (h5.out _).mono ?_
    rintro e W3 ⟨rfl, hb⟩
    go_wp2_with fail
    go_ret
    exact ⟨rfl, hB.trans (hb.mono hB.size)⟩
  · have hcond : ((d == 0) = false) ∨ ((d == 0) = true ∧ decide (100000 < l) = false) ∨ ((d == 0) = true ∧ decide (100000 < l) = true ∧ decide (l ≤ 1073741824) = false) := by
      by_cases h : d = 0
      · by_cases h2 : 100000 < l
        · exact .inr (.inr ⟨by simpa using h, by simpa using h2, by simpa using fun h3 => c ⟨h, h2, h3⟩⟩)
        · exact .inr (.inl ⟨by simpa using h, by simpa using h2⟩)
      · exact .inl (by simpa using h)
    clear c
    rcases hcond with q1 | ⟨q1, q2⟩ | ⟨q1, q2, q3⟩
    all_goals
      go_wp2_with fail
      refine (h3.out _).mono ?_
      rintro e W3 ⟨n1, k1, rfl, hr, hb⟩
      replace hr := Lib.hid hr
      replace b0 := b0.below hb b0.lt
      replace hB := hB.trans (hb.mono hB.size)
      clear hb x0 x1 x2 x3
      obtain ⟨x0, x1, x2, x3, _, _, _, _⟩ := b0.facts4
      go_wp2_with fail
      refine (h4.out _).mono ?_
      rintro e W4 ⟨n2, k2, rfl, hr', hb⟩
      obtain ⟨rfl, rfl⟩ := hr.out.uniq hr'
      replace hB := hB.trans (hb.mono hB.size)
      clear hb hr hr' b0 x0 x1 x2 x3
      go_wp2_with fail
      refine (h5.out _).mono ?_
      rintro e W5 ⟨rfl, hb⟩
      go_wp2_with fail
      go_ret
      exact ⟨rfl, hB.trans (hb.mono hB.size)⟩
end Go.Proofs.Ytdadpfgcjffclaa
