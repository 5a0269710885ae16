/- MaltAir returns true, whatever the mill, the minutes and the differences are. -/
import Derived.Test.YtdadpfgcjffclaaLawEver
import Derived.Test.YtdadpfgcjffclaaRefDust
namespace Go.Proofs.Ytdadpfgcjffclaa
open Go.RowKit Go.Sort
attribute [local go_sem] Oper.calm Oper.calmAt Oper.calmUpon

theorem dust_calls {f m d l n : Int} (hm : MillOk f m d l) (h0 : 0 ≤ n) (h1 : n ≤ 65536) (W : World) :
    Calls Try.prog 18 #[.agg #[.int .i64 f, .int .i64 m, .int .i64 d, .int .i64 l], .int .i64 n] W fun e w' => e = .returned (.tuple #[.int .i64 (dustR m d n.toNat f), .int .i64 0]) ∧ Below W.heap.size W w' :=
  (Dust_any f m d l n W ⟨by omega, by omega⟩).mono fun e w' ⟨a, k, he, hr, hb⟩ => by
    obtain ⟨rfl, rfl⟩ := hr.ok hm h0 h1
    exact ⟨he, hb⟩
theorem HarmIs.harms {f m d l n k : Int} (h : HarmIs f m d l n k) (hm : MillOk f m d l) : Harms f m d l n k := by
  rcases h with ⟨h, _⟩ | ⟨_, h⟩
  · exact absurd hm h
  · exact h
theorem harm_better {f m d m' d' l x g y h : Int} (hm : MillOk f m d l) (m0 : 0 ≤ m') (m1 : m' ≤ m) (d0 : d ≤ d') (d1 : d' ≤ 10000) (hx : Harms f m d l x g) (hy : Harms f m' d' l y h) :
    (g = 4 ∧ h = 4) ∨ (g = 0 ∧ h = 4) ∨ (g = 0 ∧ h = 0 ∧ x ≤ y) := by
  have hmono : ∀ i, iterM m' d' i f ≤ iterM m d i f := fun i => iter_mono m0 m1 (by have := hm.2.2.2.1; omega) d0 d1 i hm.1.1 (Int.le_refl f)
  rcases hx with ⟨rfl, _, hall⟩ | ⟨rfl, x0, hgt, hlt⟩
  · rcases hy with ⟨rfl, _, _⟩ | ⟨_, _, hgt', _⟩
    · exact .inl ⟨rfl, rfl⟩
    · have := hall y.toNat; have := hmono y.toNat; omega
  · rcases hy with ⟨rfl, _, _⟩ | ⟨rfl, y0, hgt', hlt'⟩
    · exact .inr (.inl ⟨rfl, rfl⟩)
    · refine .inr (.inr ⟨rfl, rfl, ?_⟩)
      rcases Int.lt_or_le y x with h | h
      · have := hlt y.toNat (by omega); have := hmono y.toNat; omega
      · exact h

set_option maxHeartbeats 8000000 in
set_option maxRecDepth 100000 in
theorem law_air (f m d l n s t : Int) (w : World) (hn : -9223372036854775808 ≤ n ∧ n ≤ 9223372036854775807) (s0 : 0 ≤ s) (s1 : s ≤ 65535) (t0 : 0 ≤ t) (t1 : t ≤ 65535) :
    Calls Try.prog 8 #[.agg #[.int .i64 f, .int .i64 m, .int .i64 d, .int .i64 l], .int .i64 n, .int .u16 s, .int .u16 t] w fun e w' => e = .returned (.bool true) ∧ Below w.heap.size w w' := by
  have h1 := Lib.hid fun W => Dust_any f m d l n W hn
  have h2 := Lib.hid fun W => refMill_any f m d l W
  have h3 := Lib.hid fun f m d l W => Harm_any f m d l W
  have h5 := Lib.hid awake_any
  have hs : IntKind.i64.wrap s = s := IntWalk.i64_in _ (by omega)
  have ht : IntKind.i64.wrap t = t := IntWalk.i64_in _ (by omega)
  go_enter Try.func8, Try.ntmps8
  go_upto_region 1 with fail
  refine wp_world (fun W => Below w.heap.size w W ∧ Blk W w.heap.size 37 #[.int .i64 f, .int .i64 m, .int .i64 d, .int .i64 l]) ⟨(Below.refl _ _).alloc (Nat.le_refl _) _, Blk.new _ _ _⟩ ?_
  rintro W0 ⟨hB, b0⟩
  obtain ⟨x0, x1, x2, x3, _, _, _, _⟩ := b0.facts4
  go_wp2_with fail
  refine (h1.out _).mono ?_
  rintro e W1 ⟨a, k, rfl, hr, hb⟩
  replace b0 := b0.below hb b0.lt
  replace hB := hB.trans (hb.mono hB.size)
  clear hb h1 x0 x1 x2 x3
  obtain ⟨x0, x1, x2, x3, _, _, _, _⟩ := b0.facts4
  have hcases : (a = 0 ∧ (k == 0) = false) ∨ (MillOk f m d l ∧ (0 ≤ n ∧ n ≤ 65536) ∧ a = dustR m d n.toNat f ∧ k = 0) := by
    rcases hr with ⟨_, rfl, rfl⟩ | ⟨hm, ⟨_, rfl, rfl⟩ | ⟨h, rfl, rfl⟩⟩
    · exact .inl ⟨rfl, rfl⟩
    · exact .inl ⟨rfl, rfl⟩
    · exact .inr ⟨hm, h, rfl, rfl⟩
  clear hr
  rcases hcases with ⟨rfl, q1⟩ | ⟨hm, ⟨n0, n1⟩, ha, rfl⟩
  · go_wp2_with fail
    refine (h5.out _).mono ?_
    rintro e W3 ⟨rfl, hb⟩
    go_wp2_with fail
    go_ret
    exact ⟨rfl, hB.trans (hb.mono hB.size)⟩
  · obtain ⟨⟨f0, f1⟩, ⟨m0, m1⟩, ⟨l0, l1⟩, d0, d1⟩ := id hm
    have a0 : 0 ≤ a := by rw [ha]; exact dustR_nonneg m0 d0 d1 _ f0
    have a1 : a ≤ 1073741824 := by rw [ha]; exact dustR_le _ f1
    obtain ⟨mm, hmm⟩ : ∃ mm, max 0 (m - s) = mm := ⟨_, rfl⟩
    obtain ⟨dd, hdd⟩ : ∃ dd, min 10000 (d + t) = dd := ⟨_, rfl⟩
    have mm0 : 0 ≤ mm := by omega
    have mm1 : mm ≤ m := by omega
    have dd0 : d ≤ dd := by omega
    have dd1 : dd ≤ 10000 := by omega
    have hmax : (if s < m then m - s else 0) = mm := by rw [← hmm]; split <;> omega
    have hmin : (if d + t < 10000 then d + t else 10000) = dd := by rw [← hdd]; split <;> omega
    have hm2 : MillOk f mm dd l := ⟨⟨f0, f1⟩, ⟨mm0, by omega⟩, ⟨l0, l1⟩, by omega, dd1⟩
    have hD2 := Lib.hid fun W => dust_calls hm2 n0 n1 W
    have hba : dustR mm dd n.toNat f ≤ a := by rw [ha]; exact dustR_mono mm0 mm1 (by omega) dd0 dd1 _ f0 (Int.le_refl f) f1
    have hH := Lib.hid fun (x g y h : Int) (hx : HarmIs f m d l x g) (hy : HarmIs f mm dd l y h) => harm_better hm mm0 mm1 dd0 dd1 (hx.harms hm) (hy.harms hm2)
    have hN1 := Lib.hid fun (h : n + 1 ≤ 65536) W => dust_calls hm (show 0 ≤ n + 1 by omega) h W
    have hN2 := Lib.hid fun (h : n + 2 ≤ 65536) W => dust_calls hm (show 0 ≤ n + 2 by omega) h W
    have hst := Lib.hid (show dustR m d (n + 1).toNat f ≤ a → dustR m d (n + 2).toNat f ≤ dustR m d (n + 1).toNat f from fun h => by
      have e1 : (n + 1).toNat = n.toNat + 1 := by omega
      have e2 : (n + 2).toNat = n.toNat + 2 := by omega
      rw [e1, e2]
      rw [ha, e1] at h
      exact dust_still m0 d0 d1 f0 f1 _ h)
    have hmok := Lib.hid hm
    have hx1 := Lib.hid fun W => h3.out f m d l W
    have hx2 := Lib.hid fun W => h3.out f mm dd l W
    have q2 : decide (n < 0) = false := by simpa using n0
    have q3 : decide (65536 < n) = false := by simpa using n1
    have q4 : decide (a < 0) = false := by simpa using a0
    have q5 : decide (1073741824 < a) = false := by simpa using a1
    have q6 : decide (a < dustR mm dd n.toNat f) = false := by simpa using hba
    generalize dustR mm dd n.toNat f = bb at *
    generalize dustR m d (n + 1).toNat f = cc at *
    generalize dustR m d (n + 2).toNat f = ee at *
    clear ha hm hm2 hmm hdd hba h3
    go_wp2_with fail
    refine (h2.out _).mono ?_
    rintro e W2 ⟨r, rfl, hr, hb⟩
    obtain rfl : r = true := hr.2 hmok.out
    replace b0 := b0.below hb b0.lt
    replace hB := hB.trans (hb.mono hB.size)
    clear hb x0 x1 x2 x3 h2 hr
    obtain ⟨x0, x1, x2, x3, _, _, _, _⟩ := b0.facts4
    go_upto_region 7 with fail
    refine wp_world (fun W => Below w.heap.size w W ∧ Blk W w.heap.size 37 #[.int .i64 f, .int .i64 m, .int .i64 d, .int .i64 l] ∧ Blk W W2.heap.size 37 #[.int .i64 f, .int .i64 m, .int .i64 d, .int .i64 l] ∧ w.heap.size < W2.heap.size) ⟨hB.alloc hB.size _, b0.alloc _, Blk.new _ _ _, b0.lt⟩ ?_
    clear hB b0 x0 x1 x2 x3
    generalize W2.heap.size = g2
    rintro W3 ⟨hB, b0, b2, n2⟩
    obtain ⟨x0, x1, x2, x3, _, _, _, _⟩ := b0.facts4
    obtain ⟨y0, y1, y2, y3, _, _, _, _⟩ := b2.facts4
    go_upto_region 9 with fail
    refine wp_world (fun W => Below w.heap.size w W ∧ Blk W w.heap.size 37 #[.int .i64 f, .int .i64 m, .int .i64 d, .int .i64 l] ∧ Blk W g2 37 #[.int .i64 f, .int .i64 mm, .int .i64 dd, .int .i64 l])
      ⟨(hB.setCell (by simp only; omega) _).setCell (by simp only; omega) _, (b0.far (by simp only; omega) _).far (by simp only; omega) _, (b2.set_ 1 _).set_ 2 _⟩ ?_
    clear hB b0 b2 x0 x1 x2 x3 y0 y1 y2 y3 hs ht hmax hmin s0 s1 t0 t1
    rintro W4 ⟨hB, b0, b2⟩
    obtain ⟨y0, y1, y2, y3, _, _, _, _⟩ := b2.facts4
    go_wp2_with fail
    refine (hD2.out _).mono ?_
    rintro e W5 ⟨rfl, hb⟩
    replace b0 := b0.below hb b0.lt
    replace b2 := b2.below hb b2.lt
    replace hB := hB.trans (hb.mono hB.size)
    clear hb y0 y1 y2 y3 hD2
    obtain ⟨x0, x1, x2, x3, _, _, _, _⟩ := b0.facts4
    have hlast : ∀ (W : World) (a' : Act), True := fun _ _ => trivial
    clear hlast
    have hcond : (decide (0 < d) = true) ∨ (decide (0 < d) = false ∧ decide (l ≤ 100000) = true) ∨ (decide (0 < d) = false ∧ decide (l ≤ 100000) = false) := by
      cases decide (0 < d) <;> cases decide (l ≤ 100000) <;> simp
    rcases hcond with p1 | ⟨p1, p2⟩ | ⟨p1, p2⟩
    · obtain ⟨y0, y1, y2, y3, _, _, _, _⟩ := b2.facts4
      go_wp2_with fail
      refine (hx1.out _).mono ?_
      rintro e W6 ⟨xx, gg, rfl, hr, hb⟩
      replace hr := Lib.hid hr
      replace b0 := b0.below hb b0.lt
      replace b2 := b2.below hb b2.lt
      replace hB := hB.trans (hb.mono hB.size)
      clear hb x0 x1 x2 x3 y0 y1 y2 y3 hx1
      obtain ⟨y0, y1, y2, y3, _, _, _, _⟩ := b2.facts4
      go_wp2_with fail
      refine (hx2.out _).mono ?_
      rintro e W7 ⟨yy, hh, rfl, hr', hb⟩
      have hres := hH.out _ _ _ _ hr.out hr'
      replace b0 := b0.below hb b0.lt
      replace hB := hB.trans (hb.mono hB.size)
      clear hb y0 y1 y2 y3 hx2 hr hr' hH b2
      obtain ⟨x0, x1, x2, x3, _, _, _, _⟩ := b0.facts4
      rcases hres with ⟨rfl, rfl⟩ | ⟨rfl, rfl⟩ | ⟨rfl, rfl, hle⟩
      · by_cases c1 : 65534 < n
        · have q7 : decide (65534 < n) = true := by simpa using c1
          clear c1
          go_wp2_with fail
          refine (h5.out _).mono ?_
          rintro e W8 ⟨rfl, hb⟩
          go_wp2_with fail
          go_ret
          exact ⟨rfl, hB.trans (hb.mono hB.size)⟩
        · have q7 : decide (65534 < n) = false := by simpa using c1
          replace hN1 := Lib.hid (hN1.out (by omega))
          replace hN2 := Lib.hid (hN2.out (by omega))
          go_wp2_with fail
          refine (hN1.out _).mono ?_
          rintro e W8 ⟨rfl, hb⟩
          replace b0 := b0.below hb b0.lt
          replace hB := hB.trans (hb.mono hB.size)
          clear hb x0 x1 x2 x3 hN1
          obtain ⟨x0, x1, x2, x3, _, _, _, _⟩ := b0.facts4
          go_wp2_with fail
          refine (hN2.out _).mono ?_
          rintro e W9 ⟨rfl, hb⟩
          replace hB := hB.trans (hb.mono hB.size)
          clear hb x0 x1 x2 x3 hN2 b0
          by_cases c2 : a < cc
          · have q8 : decide (a < cc) = true := by simpa using c2
            clear hst c2
            go_wp2_with fail
            refine (h5.out _).mono ?_
            rintro e W10 ⟨rfl, hb⟩
            go_wp2_with fail
            go_ret
            exact ⟨rfl, hB.trans (hb.mono hB.size)⟩
          · have q8 : decide (a < cc) = false := by simpa using c2
            have q9 : decide (ee ≤ cc) = true := by simpa using hst.out (by omega)
            clear hst c2
            go_wp2_with fail
            refine (h5.out _).mono ?_
            rintro e W10 ⟨rfl, hb⟩
            go_wp2_with fail
            go_ret
            exact ⟨rfl, hB.trans (hb.mono hB.size)⟩
      · by_cases c1 : 65534 < n
        · have q7 : decide (65534 < n) = true := by simpa using c1
          clear c1
          go_wp2_with fail
          refine (h5.out _).mono ?_
          rintro e W8 ⟨rfl, hb⟩
          go_wp2_with fail
          go_ret
          exact ⟨rfl, hB.trans (hb.mono hB.size)⟩
        · have q7 : decide (65534 < n) = false := by simpa using c1
          replace hN1 := Lib.hid (hN1.out (by omega))
          replace hN2 := Lib.hid (hN2.out (by omega))
          go_wp2_with fail
          refine (hN1.out _).mono ?_
          rintro e W8 ⟨rfl, hb⟩
          replace b0 := b0.below hb b0.lt
          replace hB := hB.trans (hb.mono hB.size)
          clear hb x0 x1 x2 x3 hN1
          obtain ⟨x0, x1, x2, x3, _, _, _, _⟩ := b0.facts4
          go_wp2_with fail
          refine (hN2.out _).mono ?_
          rintro e W9 ⟨rfl, hb⟩
          replace hB := hB.trans (hb.mono hB.size)
          clear hb x0 x1 x2 x3 hN2 b0
          by_cases c2 : a < cc
          · have q8 : decide (a < cc) = true := by simpa using c2
            clear hst c2
            go_wp2_with fail
            refine (h5.out _).mono ?_
            rintro e W10 ⟨rfl, hb⟩
            go_wp2_with fail
            go_ret
            exact ⟨rfl, hB.trans (hb.mono hB.size)⟩
          · have q8 : decide (a < cc) = false := by simpa using c2
            have q9 : decide (ee ≤ cc) = true := by simpa using hst.out (by omega)
            clear hst c2
            go_wp2_with fail
            refine (h5.out _).mono ?_
            rintro e W10 ⟨rfl, hb⟩
            go_wp2_with fail
            go_ret
            exact ⟨rfl, hB.trans (hb.mono hB.size)⟩
      · have q10 : decide (yy < xx) = false := by simpa using hle
        by_cases c1 : 65534 < n
        · have q7 : decide (65534 < n) = true := by simpa using c1
          clear c1
          go_wp2_with fail
          refine (h5.out _).mono ?_
          rintro e W8 ⟨rfl, hb⟩
          go_wp2_with fail
          go_ret
          exact ⟨rfl, hB.trans (hb.mono hB.size)⟩
        · have q7 : decide (65534 < n) = false := by simpa using c1
          replace hN1 := Lib.hid (hN1.out (by omega))
          replace hN2 := Lib.hid (hN2.out (by omega))
          go_wp2_with fail
          refine (hN1.out _).mono ?_
          rintro e W8 ⟨rfl, hb⟩
          replace b0 := b0.below hb b0.lt
          replace hB := hB.trans (hb.mono hB.size)
          clear hb x0 x1 x2 x3 hN1
          obtain ⟨x0, x1, x2, x3, _, _, _, _⟩ := b0.facts4
          go_wp2_with fail
          refine (hN2.out _).mono ?_
          rintro e W9 ⟨rfl, hb⟩
          replace hB := hB.trans (hb.mono hB.size)
          clear hb x0 x1 x2 x3 hN2 b0
          by_cases c2 : a < cc
          · have q8 : decide (a < cc) = true := by simpa using c2
            clear hst c2
            go_wp2_with fail
            refine (h5.out _).mono ?_
            rintro e W10 ⟨rfl, hb⟩
            go_wp2_with fail
            go_ret
            exact ⟨rfl, hB.trans (hb.mono hB.size)⟩
          · have q8 : decide (a < cc) = false := by simpa using c2
            have q9 : decide (ee ≤ cc) = true := by simpa using hst.out (by omega)
            clear hst c2
            go_wp2_with fail
            refine (h5.out _).mono ?_
            rintro e W10 ⟨rfl, hb⟩
            go_wp2_with fail
            go_ret
            exact ⟨rfl, hB.trans (hb.mono hB.size)⟩
    · obtain ⟨y0, y1, y2, y3, _, _, _, _⟩ := b2.facts4
      go_wp2_with fail
      refine (hx1.out _).mono ?_
      rintro e W6 ⟨xx, gg, rfl, hr, hb⟩
      replace hr := Lib.hid hr
      replace b0 := b0.below hb b0.lt
      replace b2 := b2.below hb b2.lt
      replace hB := hB.trans (hb.mono hB.size)
      clear hb x0 x1 x2 x3 y0 y1 y2 y3 hx1
      obtain ⟨y0, y1, y2, y3, _, _, _, _⟩ := b2.facts4
      go_wp2_with fail
      refine (hx2.out _).mono ?_
      rintro e W7 ⟨yy, hh, rfl, hr', hb⟩
      have hres := hH.out _ _ _ _ hr.out hr'
      replace b0 := b0.below hb b0.lt
      replace hB := hB.trans (hb.mono hB.size)
      clear hb y0 y1 y2 y3 hx2 hr hr' hH b2
      obtain ⟨x0, x1, x2, x3, _, _, _, _⟩ := b0.facts4
      rcases hres with ⟨rfl, rfl⟩ | ⟨rfl, rfl⟩ | ⟨rfl, rfl, hle⟩
      · by_cases c1 : 65534 < n
        · have q7 : decide (65534 < n) = true := by simpa using c1
          clear c1
          go_wp2_with fail
          refine (h5.out _).mono ?_
          rintro e W8 ⟨rfl, hb⟩
          go_wp2_with fail
          go_ret
          exact ⟨rfl, hB.trans (hb.mono hB.size)⟩
        · have q7 : decide (65534 < n) = false := by simpa using c1
          replace hN1 := Lib.hid (hN1.out (by omega))
          replace hN2 := Lib.hid (hN2.out (by omega))
          go_wp2_with fail
          refine (hN1.out _).mono ?_
          rintro e W8 ⟨rfl, hb⟩
          replace b0 := b0.below hb b0.lt
          replace hB := hB.trans (hb.mono hB.size)
          clear hb x0 x1 x2 x3 hN1
          obtain ⟨x0, x1, x2, x3, _, _, _, _⟩ := b0.facts4
          go_wp2_with fail
          refine (hN2.out _).mono ?_
          rintro e W9 ⟨rfl, hb⟩
          replace hB := hB.trans (hb.mono hB.size)
          clear hb x0 x1 x2 x3 hN2 b0
          by_cases c2 : a < cc
          · have q8 : decide (a < cc) = true := by simpa using c2
            clear hst c2
            go_wp2_with fail
            refine (h5.out _).mono ?_
            rintro e W10 ⟨rfl, hb⟩
            go_wp2_with fail
            go_ret
            exact ⟨rfl, hB.trans (hb.mono hB.size)⟩
          · have q8 : decide (a < cc) = false := by simpa using c2
            have q9 : decide (ee ≤ cc) = true := by simpa using hst.out (by omega)
            clear hst c2
            go_wp2_with fail
            refine (h5.out _).mono ?_
            rintro e W10 ⟨rfl, hb⟩
            go_wp2_with fail
            go_ret
            exact ⟨rfl, hB.trans (hb.mono hB.size)⟩
      · by_cases c1 : 65534 < n
        · have q7 : decide (65534 < n) = true := by simpa using c1
          clear c1
          go_wp2_with fail
          refine (h5.out _).mono ?_
          rintro e W8 ⟨rfl, hb⟩
          go_wp2_with fail
          go_ret
          exact ⟨rfl, hB.trans (hb.mono hB.size)⟩
        · have q7 : decide (65534 < n) = false := by simpa using c1
          replace hN1 := Lib.hid (hN1.out (by omega))
          replace hN2 := Lib.hid (hN2.out (by omega))
          go_wp2_with fail
          refine (hN1.out _).mono ?_
          rintro e W8 ⟨rfl, hb⟩
          replace b0 := b0.below hb b0.lt
          replace hB := hB.trans (hb.mono hB.size)
          clear hb x0 x1 x2 x3 hN1
          obtain ⟨x0, x1, x2, x3, _, _, _, _⟩ := b0.facts4
          go_wp2_with fail
          refine (hN2.out _).mono ?_
          rintro e W9 ⟨rfl, hb⟩
          replace hB := hB.trans (hb.mono hB.size)
          clear hb x0 x1 x2 x3 hN2 b0
          by_cases c2 : a < cc
          · have q8 : decide (a < cc) = true := by simpa using c2
            clear hst c2
            go_wp2_with fail
            refine (h5.out _).mono ?_
            rintro e W10 ⟨rfl, hb⟩
            go_wp2_with fail
            go_ret
            exact ⟨rfl, hB.trans (hb.mono hB.size)⟩
          · have q8 : decide (a < cc) = false := by simpa using c2
            have q9 : decide (ee ≤ cc) = true := by simpa using hst.out (by omega)
            clear hst c2
            go_wp2_with fail
            refine (h5.out _).mono ?_
            rintro e W10 ⟨rfl, hb⟩
            go_wp2_with fail
            go_ret
            exact ⟨rfl, hB.trans (hb.mono hB.size)⟩
      · have q10 : decide (yy < xx) = false := by simpa using hle
        by_cases c1 : 65534 < n
        · have q7 : decide (65534 < n) = true := by simpa using c1
          clear c1
          go_wp2_with fail
          refine (h5.out _).mono ?_
          rintro e W8 ⟨rfl, hb⟩
          go_wp2_with fail
          go_ret
          exact ⟨rfl, hB.trans (hb.mono hB.size)⟩
        · have q7 : decide (65534 < n) = false := by simpa using c1
          replace hN1 := Lib.hid (hN1.out (by omega))
          replace hN2 := Lib.hid (hN2.out (by omega))
          go_wp2_with fail
          refine (hN1.out _).mono ?_
          rintro e W8 ⟨rfl, hb⟩
          replace b0 := b0.below hb b0.lt
          replace hB := hB.trans (hb.mono hB.size)
          clear hb x0 x1 x2 x3 hN1
          obtain ⟨x0, x1, x2, x3, _, _, _, _⟩ := b0.facts4
          go_wp2_with fail
          refine (hN2.out _).mono ?_
          rintro e W9 ⟨rfl, hb⟩
          replace hB := hB.trans (hb.mono hB.size)
          clear hb x0 x1 x2 x3 hN2 b0
          by_cases c2 : a < cc
          · have q8 : decide (a < cc) = true := by simpa using c2
            clear hst c2
            go_wp2_with fail
            refine (h5.out _).mono ?_
            rintro e W10 ⟨rfl, hb⟩
            go_wp2_with fail
            go_ret
            exact ⟨rfl, hB.trans (hb.mono hB.size)⟩
          · have q8 : decide (a < cc) = false := by simpa using c2
            have q9 : decide (ee ≤ cc) = true := by simpa using hst.out (by omega)
            clear hst c2
            go_wp2_with fail
            refine (h5.out _).mono ?_
            rintro e W10 ⟨rfl, hb⟩
            go_wp2_with fail
            go_ret
            exact ⟨rfl, hB.trans (hb.mono hB.size)⟩
    · clear b2
      by_cases c1 : 65534 < n
      · have q7 : decide (65534 < n) = true := by simpa using c1
        clear c1
        go_wp2_with fail
        refine (h5.out _).mono ?_
        rintro e W8 ⟨rfl, hb⟩
        go_wp2_with fail
        go_ret
        exact ⟨rfl, hB.trans (hb.mono hB.size)⟩
      · have q7 : decide (65534 < n) = false := by simpa using c1
        replace hN1 := Lib.hid (hN1.out (by omega))
        replace hN2 := Lib.hid (hN2.out (by omega))
        go_wp2_with fail
        refine (hN1.out _).mono ?_
        rintro e W8 ⟨rfl, hb⟩
        replace b0 := b0.below hb b0.lt
        replace hB := hB.trans (hb.mono hB.size)
        clear hb x0 x1 x2 x3 hN1
        obtain ⟨x0, x1, x2, x3, _, _, _, _⟩ := b0.facts4
        go_wp2_with fail
        refine (hN2.out _).mono ?_
        rintro e W9 ⟨rfl, hb⟩
        replace hB := hB.trans (hb.mono hB.size)
        clear hb x0 x1 x2 x3 hN2 b0
        by_cases c2 : a < cc
        · have q8 : decide (a < cc) = true := by simpa using c2
          clear hst c2
          go_wp2_with fail
          refine (h5.out _).mono ?_
          rintro e W10 ⟨rfl, hb⟩
          go_wp2_with fail
          go_ret
          exact ⟨rfl, hB.trans (hb.mono hB.size)⟩
        · have q8 : decide (a < cc) = false := by simpa using c2
          have q9 : decide (ee ≤ cc) = true := by simpa using hst.out (by omega)
          clear hst c2
          go_wp2_with fail
          refine (h5.out _).mono ?_
          rintro e W10 ⟨rfl, hb⟩
          go_wp2_with fail
          go_ret
          exact ⟨rfl, hB.trans (hb.mono hB.size)⟩
end Go.Proofs.Ytdadpfgcjffclaa
