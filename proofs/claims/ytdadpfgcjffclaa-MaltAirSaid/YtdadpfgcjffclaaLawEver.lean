/- MaltEver returns true, whatever the mill and the minute are. -/
import Derived.Test.YtdadpfgcjffclaaAwake
namespace Go.Proofs.Ytdadpfgcjffclaa
open Go.RowKit Go.Sort
attribute [local go_sem] Oper.calm Oper.calmAt Oper.calmUpon

theorem dust_low {m d f l : Int} {N : Nat} (h : ∀ i, i ≤ N → iterM m d i f ≤ l) (hl : l ≤ 1073741824) : dustR m d N f ≤ l := by
  have hl' := hl
  rcases dustR_is (m := m) (d := d) N f with ⟨h1, _⟩ | ⟨_, i, h2, h3⟩
  · rw [h1]; exact h N (Nat.le_refl _)
  · have := h i h2; omega
theorem dust_high {m d f l : Int} {N : Nat} (h : l < iterM m d N f) : min (l + 1) 1073741824 ≤ dustR m d N f := by
  rcases dustR_is (m := m) (d := d) N f with ⟨h1, _⟩ | ⟨h1, _⟩
  · rw [h1]; omega
  · rw [h1]; omega
theorem DustIs.ok {f m d l n a k : Int} (h : DustIs f m d l n a k) (hm : MillOk f m d l) (h0 : 0 ≤ n) (h1 : n ≤ 65536) : a = dustR m d n.toNat f ∧ k = 0 := by
  rcases h with ⟨g, _⟩ | ⟨_, ⟨g, _⟩ | ⟨_, g1, g2⟩⟩
  · exact absurd hm g
  · exact absurd ⟨h0, h1⟩ g
  · exact ⟨g1, g2⟩

set_option maxHeartbeats 8000000 in
set_option maxRecDepth 100000 in
theorem law_ever (f m d l t : Int) (w : World) (t0 : 0 ≤ t) (t1 : t ≤ 65535) :
    Calls Try.prog 9 #[.agg #[.int .i64 f, .int .i64 m, .int .i64 d, .int .i64 l], .int .u16 t] w fun e w' => e = .returned (.bool true) ∧ Below w.heap.size w w' := by
  have h1 := Lib.hid fun n W hn => Dust_any f m d l n W hn
  have h3 := Lib.hid fun W => Harm_any f m d l W
  have h5 := Lib.hid awake_any
  have hw : IntKind.i64.wrap t = t := IntWalk.i64_in _ (by omega)
  go_enter Try.func9, Try.ntmps9
  go_upto_region 1 with fail
  refine wp_world (fun W => Below w.heap.size w W ∧ Blk W w.heap.size 37 #[.int .i64 f, .int .i64 m, .int .i64 d, .int .i64 l]) ⟨(Below.refl _ _).alloc (Nat.le_refl _) _, Blk.new _ _ _⟩ ?_
  rintro W0 ⟨hB, b0⟩
  obtain ⟨x0, x1, x2, x3, _, _, _, _⟩ := b0.facts4
  by_cases c : d = 0 ∧ 100000 < l ∧ l ≤ 1073741824
  · have q1 : (d == 0) = true := by simpa using c.1
    have q2 : decide (100000 < l) = true := by simpa using c.2.1
    have q3 : decide (l ≤ 1073741824) = true := by simpa using c.2.2
    clear c
    go_wp2_with fail
    refine (h5.out _).mono ?_
    rintro e W3 ⟨rfl, hb⟩
    go_wp2_with fail
    go_ret
    exact ⟨rfl, hB.trans (hb.mono hB.size)⟩
  · have hcond : ((d == 0) = false) ∨ ((d == 0) = true ∧ decide (100000 < l) = false) ∨ ((d == 0) = true ∧ decide (100000 < l) = true ∧ decide (l ≤ 1073741824) = false) := by
      by_cases h : d = 0
      · by_cases h2 : 100000 < l
        · exact .inr (.inr ⟨by simpa using h, by simpa using h2, by simpa using fun h3 => c ⟨h, h2, h3⟩⟩)
        · exact .inr (.inl ⟨by simpa using h, by simpa using h2⟩)
      · exact .inl (by simpa using h)
    clear c
    rcases hcond with q1 | ⟨q1, q2⟩ | ⟨q1, q2, q3⟩
    all_goals
      go_wp2_with fail
      refine (h3.out _).mono ?_
      rintro e W1 ⟨n, k, rfl, hr, hb⟩
      replace b0 := b0.below hb b0.lt
      replace hB := hB.trans (hb.mono hB.size)
      clear hb x0 x1 x2 x3 h3
      obtain ⟨x0, x1, x2, x3, _, _, _, _⟩ := b0.facts4
      rcases hr with ⟨_, rfl, rfl⟩ | ⟨hok, ⟨rfl, rfl, hall⟩ | ⟨rfl, n0, hn, hlt⟩⟩
      · go_wp2_with fail
        refine (h5.out _).mono ?_
        rintro e W3 ⟨rfl, hb⟩
        go_wp2_with fail
        go_ret
        exact ⟨rfl, hB.trans (hb.mono hB.size)⟩
      · have hd := Lib.hid (dust_low (m := m) (d := d) (f := f) (N := t.toNat) (fun i _ => hall i) hok.2.2.1.2)
        have hok' := Lib.hid hok
        have h2 := Lib.hid fun W => h1.out t W (by omega)
        clear hall hok h1
        go_wp2_with fail
        refine (h2.out _).mono ?_
        rintro e W2 ⟨a, k, rfl, hr, hb⟩
        obtain ⟨rfl, rfl⟩ := hr.ok hok'.out t0 (by omega)
        replace b0 := b0.below hb b0.lt
        replace hB := hB.trans (hb.mono hB.size)
        clear hb x0 x1 x2 x3 hr
        obtain ⟨x0, x1, x2, x3, _, _, _, _⟩ := b0.facts4
        have q4 : decide (dustR m d t.toNat f ≤ l) = true := by simpa using hd.out
        generalize dustR m d t.toNat f = a at *
        clear hd
        go_wp2_with fail
        refine (h5.out _).mono ?_
        rintro e W3 ⟨rfl, hb⟩
        go_wp2_with fail
        go_ret
        exact ⟨rfl, hB.trans (hb.mono hB.size)⟩
      · have hd := Lib.hid (dust_high hn)
        have hok' := Lib.hid hok
        have l0 := hok.2.2.1.1
        have l1 := hok.2.2.1.2
        have hlow := Lib.hid fun (N : Nat) (hN : N < n.toNat) => dust_low (m := m) (d := d) (f := f) (l := l) (N := N) (fun i hi => hlt i (by omega)) l1
        have q5 : decide (n < 0) = false := by simpa using n0
        have key : ∀ W, Below w.heap.size w W → True := fun _ _ => trivial
        clear hn hlt hok key
        have hrest : ¬ n = 0 → 0 ≤ t % n ∧ t % n < n ∧ t % n ≤ t := fun hne => ⟨Int.emod_nonneg _ hne, Int.emod_lt_of_pos _ (by omega), by have e := Int.emod_add_mul_ediv t n; have e2 : 0 ≤ n * (t / n) := Int.mul_nonneg n0 (Int.ediv_nonneg t0 n0); omega⟩
        replace hrest := Lib.hid hrest
        by_cases c1 : n ≤ 65536
        · have q6 : decide (n ≤ 65536) = true := by simpa using c1
          have h2 := Lib.hid fun W => h1.out n W (by omega)
          go_wp2_with fail
          refine (h2.out _).mono ?_
          rintro e W2 ⟨a, k, rfl, hr, hb⟩
          obtain ⟨rfl, rfl⟩ := hr.ok hok'.out n0 c1
          replace b0 := b0.below hb b0.lt
          replace hB := hB.trans (hb.mono hB.size)
          clear hb x0 x1 x2 x3 hr h2
          obtain ⟨x0, x1, x2, x3, _, _, _, _⟩ := b0.facts4
          obtain ⟨mm, hmm⟩ : ∃ mm, (if 1073741824 < l + 1 then 1073741824 else l + 1) = mm := ⟨_, rfl⟩
          have q7 : decide (dustR m d n.toNat f < mm) = false := by
            have := hd.out
            rw [← hmm]
            simp only [decide_eq_false_iff_not]
            split <;> omega
          generalize dustR m d n.toNat f = a at *
          clear hd
          by_cases c2 : n = 0
          · have q8 : (n == 0) = true := by simpa using c2
            clear c2 hrest hlow
            go_wp2_with fail
            refine (h5.out _).mono ?_
            rintro e W3 ⟨rfl, hb⟩
            go_wp2_with fail
            go_ret
            exact ⟨rfl, hB.trans (hb.mono hB.size)⟩
          · have q8 : (n == 0) = false := by simpa using c2
            obtain ⟨r0, r1, r2⟩ := hrest.out c2
            have e1 : t.tmod n = t % n := Int.tmod_eq_emod_of_nonneg t0
            have hmin : (if 65536 < t % n then 65536 else t % n) = t % n := by split <;> omega
            have h2 := Lib.hid fun W => (h1.out (t % n) W (by omega))
            have hlo := Lib.hid (hlow.out (t % n).toNat (by omega))
            generalize t % n = j at *
            have hwj : IntKind.i64.wrap j = j := IntWalk.i64_in _ (by omega)
            have h2' := Lib.hid fun W => (h2.out W).mono fun e w' ⟨a, k, he, hr, hb⟩ => (show e = Ending.returned (.tuple #[.int .i64 (dustR m d j.toNat f), .int .i64 0]) ∧ Below W.heap.size W w' from by obtain ⟨rfl, rfl⟩ := hr.ok hok'.out r0 (by omega); exact ⟨he, hb⟩)
            have q9 : decide (dustR m d j.toNat f ≤ l) = true := by simpa using hlo.out
            generalize dustR m d j.toNat f = v at *
            clear h1 hlow hrest h2 hlo
            have x0' := fun d os => cell_regrown x0 d os
            have x1' := fun d os => cell_regrown x1 d os
            have x2' := fun d os => cell_regrown x2 d os
            have x3' := fun d os => cell_regrown x3 d os
            go_upto_region 17 with fail
            refine wp_region_quiet_below (by kernel_rfl) (by kernel_rfl) ?_
            repeat (quiet_step (fail))
            quiet_step (first | (go_at_call 18; exact quiet_call (fun W1 _ => h2'.out W1)))
            repeat (quiet_step (fail))
            refine wpQuiet_nil ?_
            intro _ hw'
            obtain ⟨⟨dq, osq⟩, hw''⟩ := hw'
            subst hw''
            have hb := below_regrown W2 dq osq
            replace b0 := b0.below hb b0.lt
            replace hB := hB.trans (hb.mono hB.size)
            clear hb x0 x1 x2 x3 x0' x1' x2' x3' h2'
            generalize grow (redrawn W2 dq) osq = W4 at *
            obtain ⟨x0, x1, x2, x3, _, _, _, _⟩ := b0.facts4
            go_wp2_with fail
            refine (h5.out _).mono ?_
            rintro e W5 ⟨rfl, hb⟩
            go_wp2_with fail
            go_ret
            exact ⟨rfl, hB.trans (hb.mono hB.size)⟩
        · have q6 : decide (n ≤ 65536) = false := by simpa using c1
          have c2 : ¬ n = 0 := by omega
          have q8 : (n == 0) = false := by simpa using c2
          clear hd
          obtain ⟨r0, r1, r2⟩ := hrest.out c2
          have e1 : t.tmod n = t % n := Int.tmod_eq_emod_of_nonneg t0
          have hmin : (if 65536 < t % n then 65536 else t % n) = t % n := by split <;> omega
          have h2 := Lib.hid fun W => (h1.out (t % n) W (by omega))
          have hlo := Lib.hid (hlow.out (t % n).toNat (by omega))
          generalize t % n = j at *
          have hwj : IntKind.i64.wrap j = j := IntWalk.i64_in _ (by omega)
          have h2' := Lib.hid fun W => (h2.out W).mono fun e w' ⟨a, k, he, hr, hb⟩ => (show e = Ending.returned (.tuple #[.int .i64 (dustR m d j.toNat f), .int .i64 0]) ∧ Below W.heap.size W w' from by obtain ⟨rfl, rfl⟩ := hr.ok hok'.out r0 (by omega); exact ⟨he, hb⟩)
          have q9 : decide (dustR m d j.toNat f ≤ l) = true := by simpa using hlo.out
          generalize dustR m d j.toNat f = v at *
          clear h1 hlow hrest h2 hlo
          have x0' := fun d os => cell_regrown x0 d os
          have x1' := fun d os => cell_regrown x1 d os
          have x2' := fun d os => cell_regrown x2 d os
          have x3' := fun d os => cell_regrown x3 d os
          go_upto_region 17 with fail
          refine wp_region_quiet_below (by kernel_rfl) (by kernel_rfl) ?_
          repeat (quiet_step (fail))
          quiet_step (first | (go_at_call 18; exact quiet_call (fun W1 _ => h2'.out W1)))
          repeat (quiet_step (fail))
          refine wpQuiet_nil ?_
          intro _ hw'
          obtain ⟨⟨dq, osq⟩, hw''⟩ := hw'
          subst hw''
          have hb := below_regrown W1 dq osq
          replace b0 := b0.below hb b0.lt
          replace hB := hB.trans (hb.mono hB.size)
          clear hb x0 x1 x2 x3 x0' x1' x2' x3' h2'
          generalize grow (redrawn W1 dq) osq = W4 at *
          obtain ⟨x0, x1, x2, x3, _, _, _, _⟩ := b0.facts4
          go_wp2_with fail
          refine (h5.out _).mono ?_
          rintro e W5 ⟨rfl, hb⟩
          go_wp2_with fail
          go_ret
          exact ⟨rfl, hB.trans (hb.mono hB.size)⟩
end Go.Proofs.Ytdadpfgcjffclaa
