/- What the document's own package answers for parts: Pure, Mix, Water. -/
import Derived.Test.YtcghafdemklnnaaLawWater
import Derived.Test.YtcghafdemklnnaaDiv
namespace Go.Proofs.Ytcghafdemklnnaa
open Go.RowKit Go.Sort
attribute [local go_sem] Oper.calm Oper.calmAt Oper.calmUpon

theorem upDiv_10000 {x : Int} : (x + 9999) / 10000 = upDiv x 10000 := by
  unfold upDiv
  split <;> omega

set_option maxHeartbeats 2000000 in
set_option maxRecDepth 100000 in
theorem refpure_any (al ah sl sh : Int) (w : World) (hp : PartOk ⟨al, ah, sl, sh⟩) :
    Calls Try.prog 65 #[.agg #[.int .i64 al, .int .i64 ah], .agg #[.int .i64 sl, .int .i64 sh]] w fun e w' => e = .returned (.agg #[.int .i64 (pureLo ⟨al, ah, sl, sh⟩), .int .i64 (pureHi ⟨al, ah, sl, sh⟩)]) ∧ Below w.heap.size w w' := by
  have hfin : ∀ x y : Int, x = al * sl / 10000 → y = (ah * sh + 9999) / 10000 → ∀ W, Below w.heap.size w W → (fun (e : Ending) w' => e = .returned (.agg #[.int .i64 (pureLo ⟨al, ah, sl, sh⟩), .int .i64 (pureHi ⟨al, ah, sl, sh⟩)]) ∧ Below w.heap.size w w') (.returned (.agg #[.int .i64 x, .int .i64 y])) W := by
    rintro x y rfl rfl W hb
    rw [upDiv_10000]
    exact ⟨rfl, hb⟩
  replace hfin := Lib.hid hfin
  obtain ⟨⟨h1, h2, h3⟩, h4, h5, h6⟩ := hp
  dsimp only at h1 h2 h3 h4 h5 h6
  have e1 : al * sl ≤ 1099511627776 * 10000 := Int.mul_le_mul (by omega) (by omega) h5 (by omega)
  have e2 : ah * sh ≤ 1099511627776 * 10000 := Int.mul_le_mul h3 h6 (by omega) (by omega)
  have e3 : 0 ≤ al * sl := Int.mul_nonneg h2 h5
  have e4 : 0 ≤ ah * sh := Int.mul_nonneg (by omega) (by omega)
  go_enter Try.func65, Try.ntmps65
  go_upto_region 1 with fail
  refine wp_world (fun W => Below w.heap.size w W ∧ Blk W w.heap.size 27 #[.int .i64 al, .int .i64 ah] ∧ Blk W (w.heap.size + 1) 27 #[.int .i64 sl, .int .i64 sh] ∧ Blk W (w.heap.size + 1 + 1) 27 #[.int .i64 0, .int .i64 0])
    ⟨(((Below.refl _ _).alloc (Nat.le_refl _) _).alloc (by simp) _).alloc (by simp; omega) _, ((blk_at rfl).alloc _).alloc _, (blk_at (by simp)).alloc _, blk_at (by simp)⟩ ?_
  rintro W0 ⟨hB0, b0, b1, b2⟩
  obtain ⟨x0, x1, _, _⟩ := b0.facts2
  obtain ⟨y0, y1, _, _⟩ := b1.facts2
  obtain ⟨r0, r1, r2, r3⟩ := b2.facts2
  have n0 := b2.lt
  go_wp2
  refine ret_world (fun W => Below w.heap.size w W ∧ Blk W (w.heap.size + 1 + 1) 27 #[.int .i64 (al * sl / 10000), .int .i64 ((ah * sh + 9999) / 10000)]) ?_ ?_
  · refine ⟨(hB0.setCell (by simp only; omega) _).setCell (by simp only; omega) _, ?_⟩
    have := (b2.set_ 0 (.int .i64 (al * sl / 10000))).set_ 1 (.int .i64 ((ah * sh + 9999) / 10000))
    first | exact this | (rw [show ah * sh + 10000 - 1 = ah * sh + 9999 by omega]; exact this)
  · rintro W ⟨hB, b⟩
    obtain ⟨z0, z1, _, _⟩ := b.facts2
    exact bodyPost_ret (v := .agg #[.int .i64 (al * sl / 10000), .int .i64 ((ah * sh + 9999) / 10000)]) (by simp [results, Try.results65, go_sem, z0, z1]) rfl (hfin.out _ _ rfl rfl _ hB)

set_option maxHeartbeats 2000000 in
set_option maxRecDepth 100000 in
theorem refPure_any (al ah sl sh : Int) (w : World) :
    Calls Try.prog 27 #[.agg #[.int .i64 al, .int .i64 ah], .agg #[.int .i64 sl, .int .i64 sh]] w (SpanErr (PureIs al ah sl sh) w) := by
  have h1 := Lib.hid fun W => refWithin_any al ah 0 1099511627776 W
  have h2 := Lib.hid fun W => refWithin_any sl sh 0 10000 W
  have hbad : ¬ PartOk ⟨al, ah, sl, sh⟩ → ∀ W', Below w.heap.size w W' → SpanErr (PureIs al ah sl sh) w (.returned (.tuple #[.agg #[.int .i64 0, .int .i64 0], .int .i64 1])) W' := fun h W' hb => ⟨0, 0, 1, rfl, .inl ⟨h, rfl, rfl, rfl⟩, hb⟩
  replace hbad := Lib.hid hbad
  go_enter Try.func27, Try.ntmps27
  go_wp2_with fail
  refine calls_world (fun W => Below w.heap.size w W ∧ Blk W w.heap.size 27 #[.int .i64 al, .int .i64 ah] ∧ Blk W (w.heap.size + 1) 27 #[.int .i64 sl, .int .i64 sh] ∧ Blk W (w.heap.size + 1 + 1) 27 #[.int .i64 0, .int .i64 0])
    ⟨(((Below.refl _ _).alloc (Nat.le_refl _) _).alloc (by simp) _).alloc (by simp; omega) _, ((blk_at rfl).alloc _).alloc _, (blk_at (by simp)).alloc _, blk_at (by simp)⟩ ?_
  rintro W0 ⟨hB0, b0, b1, b2⟩
  refine (h1.out _).mono ?_
  rintro e W1 ⟨r, rfl, hr, hb1⟩
  have hB1 := hB0.trans (hb1.mono hB0.size)
  replace b0 := b0.below hb1 b0.lt
  replace b1 := b1.below hb1 b1.lt
  replace b2 := b2.below hb1 b2.lt
  clear hb1 hB0 h1
  obtain ⟨x0, x1, _, _⟩ := b0.facts2
  obtain ⟨y0, y1, _, _⟩ := b1.facts2
  obtain ⟨r0, r1, _, _⟩ := b2.facts2
  have n1 := b2.lt
  cases r with
  | false =>
    have hnf := Lib.hid (hbad.out (fun h => Bool.noConfusion (hr.2 h.1)))
    clear hr hbad
    go_wp2_with fail
    refine bodyPost_ret (v := .tuple #[.agg #[.int .i64 0, .int .i64 0], .int .i64 1]) (by simp [results, Try.results27, go_sem, r0, r1]) rfl ?_
    exact hnf.out _ ((hB1.setCell (by simp only; omega) _).setCell (by simp only; omega) _)
  | true =>
    replace hr := Lib.hid (hr.1 rfl)
    go_wp2_with fail
    refine (h2.out _).mono ?_
    rintro e W2 ⟨q, rfl, hq, hb2⟩
    have hB2 := hB1.trans (hb2.mono hB1.size)
    replace b0 := b0.below hb2 b0.lt
    replace b1 := b1.below hb2 b1.lt
    replace b2 := b2.below hb2 b2.lt
    clear hb2 hB1 h2 x0 x1 y0 y1 r0 r1 n1
    obtain ⟨x0, x1, _, _⟩ := b0.facts2
    obtain ⟨y0, y1, _, _⟩ := b1.facts2
    obtain ⟨r0, r1, _, _⟩ := b2.facts2
    have n1 := b2.lt
    cases q with
    | false =>
      have hnf := Lib.hid (hbad.out (fun h => Bool.noConfusion (hq.2 h.2)))
      clear hq hbad
      go_wp2_with fail
      refine bodyPost_ret (v := .tuple #[.agg #[.int .i64 0, .int .i64 0], .int .i64 1]) (by simp [results, Try.results27, go_sem, r0, r1]) rfl ?_
      exact hnf.out _ ((hB2.setCell (by simp only; omega) _).setCell (by simp only; omega) _)
    | true =>
      have hok : PartOk ⟨al, ah, sl, sh⟩ := ⟨hr.out, hq.1 rfl⟩
      have hpu := Lib.hid fun W => refpure_any al ah sl sh W hok
      have hnf := Lib.hid (show PureIs al ah sl sh (pureLo ⟨al, ah, sl, sh⟩) (pureHi ⟨al, ah, sl, sh⟩) 0 from .inr ⟨hok, rfl, rfl, rfl⟩)
      clear hok hq hr hbad
      go_wp2_with fail
      refine (hpu.out _).mono ?_
      rintro e W3 ⟨rfl, hb3⟩
      have hB3 := hB2.trans (hb3.mono hB2.size)
      replace b2 := b2.below hb3 b2.lt
      clear x0 x1 y0 y1 r0 r1 n1
      obtain ⟨r0, r1, _, _⟩ := b2.facts2
      have n1 := b2.lt
      go_wp2_with fail
      refine bodyPost_ret (v := .tuple #[.agg #[.int .i64 (pureLo ⟨al, ah, sl, sh⟩), .int .i64 (pureHi ⟨al, ah, sl, sh⟩)], .int .i64 0]) (by simp [results, Try.results27, go_sem, r0, r1]) rfl ?_
      exact ⟨_, _, 0, rfl, hnf.out, (hB3.setCell (by simp only; omega) _).setCell (by simp only; omega) _⟩

set_option maxHeartbeats 1000000 in
theorem refin_any (n a b : Int) (w : World) : Calls Try.prog 70 #[.int .i64 n, .int .i64 a, .int .i64 b] w fun e w' => e = .returned (.bool (decide (a ≤ n ∧ n ≤ b))) ∧ w' = w := by
  by_cases c1 : a ≤ n
  · have c1' : decide (a ≤ n) = true := by simpa using c1
    by_cases c2 : n ≤ b
    · have c2' : decide (n ≤ b) = true := by simpa using c2
      have hf := Lib.hid (show decide (a ≤ n ∧ n ≤ b) = true by simp [c1, c2])
      go_enter Try.func70, Try.ntmps70
      go_wp2
      go_ret
      first | exact ⟨ret_bool hf.out.symm, rfl⟩ | exact ⟨rfl, rfl⟩
    · have c2' : decide (n ≤ b) = false := by simpa using c2
      have hf := Lib.hid (show decide (a ≤ n ∧ n ≤ b) = false by simp; omega)
      go_enter Try.func70, Try.ntmps70
      go_wp2
      go_ret
      first | exact ⟨ret_bool hf.out.symm, rfl⟩ | exact ⟨rfl, rfl⟩
  · have c1' : decide (a ≤ n) = false := by simpa using c1
    have hf := Lib.hid (show decide (a ≤ n ∧ n ≤ b) = false by simp; omega)
    go_enter Try.func70, Try.ntmps70
    go_wp2
    go_ret
    first | exact ⟨ret_bool hf.out.symm, rfl⟩ | exact ⟨rfl, rfl⟩

/-- a tenth of what is left, four times -/
theorem digit_step {n l P o r : Int} (hl : 0 < l) (h0 : 0 ≤ r) (h : n * P = o * l + r) : n * (P * 10) = (10 * o + r * 10 / l) * l + r * 10 % l ∧ 0 ≤ r * 10 % l ∧ r * 10 % l < l ∧ 0 ≤ r * 10 / l := by
  have e1 := Int.emod_add_mul_ediv (r * 10) l
  have e2 := Int.emod_nonneg (r * 10) (by omega : l ≠ 0)
  have e3 := Int.emod_lt_of_pos (r * 10) hl
  have e4 : 0 ≤ r * 10 / l := Int.ediv_nonneg (by omega) (by omega)
  refine ⟨?_, e2, e3, e4⟩
  have c1 : n * (P * 10) = n * P * 10 := by rw [Int.mul_assoc]
  have c2 : (10 * o + r * 10 / l) * l = 10 * (o * l) + l * (r * 10 / l) := by rw [Int.add_mul, Int.mul_assoc, Int.mul_comm (r * 10 / l) l]
  rw [c1, c2, h]
  omega
theorem up_math {n l o r : Int} (hl : 0 < l) (h : n * 10000 = o * l + r) (r0 : 0 ≤ r) (r1 : r < l) : upDiv (n * 10000) l = if 0 < r then o + 1 else o := by
  have e : n * 10000 / l = o := by
    rw [Int.ediv_eq_iff_of_pos hl]
    have : (o + 1) * l = o * l + l := by rw [Int.add_mul]; omega
    constructor <;> omega
  have e' : n * 10000 % l = r := by
    rw [Int.emod_def, e, Int.mul_comm l o]
    omega
  unfold upDiv
  rw [e, e']
  split <;> split <;> omega
theorem up_big {n l : Int} (hl : 0 < l) (h : l ≤ n) : min (upDiv (n * 10000) l) 10000 = 10000 := by
  have h1 : 10000 ≤ n * 10000 / l := (Int.le_ediv_iff_mul_le hl).2 (by omega)
  have h2 := @upDiv_bd (n * 10000) l
  omega

set_option maxHeartbeats 2000000 in
set_option maxRecDepth 100000 in
theorem refup_any (n l : Int) (w : World) (n0 : 0 ≤ n) (l0 : 0 < l) (l1 : l ≤ 20000000000000000) :
    Calls Try.prog 71 #[.int .i64 n, .int .i64 l] w fun e w' => e = .returned (.int .i64 (min (upDiv (n * 10000) l) 10000)) ∧ w' = w := by
  by_cases c0 : l ≤ n
  · have c0' : decide (l ≤ n) = true := by simpa using c0
    have hf := Lib.hid (up_big l0 c0)
    go_enter Try.func71, Try.ntmps71
    go_wp2
    go_ret
    exact ⟨ret_int hf.out.symm, rfl⟩
  · have c0' : decide (l ≤ n) = false := by simpa using c0
    have hlz : l ≠ 0 := by omega
    go_enter Try.func71, Try.ntmps71
    go_wp2
    go_loop [5, 6, 7] (fun s5 s6 s7 => ∃ (o r : Int) (k : Nat), s5 = .int .i64 o ∧ s6 = .int .i64 r ∧ s7 = .int .i64 k ∧ k ≤ 4 ∧ 0 ≤ o ∧ o ≤ 10000 * k ∧ 0 ≤ r ∧ r < l ∧ Hid (n * 10 ^ k = o * l + r ∧ o < 10 ^ k)) (fun _ _ s7 => 4 - (intOf s7).toNat)
    case atStart => exact ⟨0, n, 0, rfl, rfl, rfl, by omega, by omega, by omega, n0, by omega, Lib.hid ⟨by simp, by simp⟩⟩
    case round =>
      obtain ⟨o, r, k, rfl, rfl, rfl, hk, ho, ho', hr, hr', hE⟩ := hrel
      by_cases hlt : k < 4
      · obtain ⟨d1, d2, d3, d4⟩ := digit_step l0 hr hE.out.1
        have d5 : r * 10 / l < 10 := (Int.ediv_lt_iff_lt_mul l0).2 (by omega)
        have d6 := hE.out.2
        have d7 : (10 : Int) ^ (k + 1) = 10 ^ k * 10 := Int.pow_succ _ _
        have hnx : Hid (n * 10 ^ (k + 1) = (10 * o + r * 10 / l) * l + r * 10 % l ∧ 10 * o + r * 10 / l < 10 ^ (k + 1)) := Lib.hid ⟨by rw [d7]; exact d1, by rw [d7]; omega⟩
        have d8 : (10 : Int) ^ k ≤ 1000 := by
          have hk' : k = 0 ∨ k = 1 ∨ k = 2 ∨ k = 3 := by omega
          rcases hk' with rfl | rfl | rfl | rfl <;> decide
        have d9 : 10 * o + r * 10 / l ≤ 10000 * (k + 1) := by omega
        have w2 : IntKind.i64.wrap ((r * 10).tmod l) = r * 10 % l := by rw [Int.tmod_eq_emod_of_nonneg (by omega)]; exact IntWalk.i64_in _ (by omega)
        replace w2 := Lib.hid w2
        clear d1 d7 d6 d8 hE
        go_wp2
        go_round
        case rel => exact ⟨_, _, k + 1, rfl, by first | rfl | rw [← w2.out] | rw [Int.tmod_eq_emod_of_nonneg (show 0 ≤ r * 10 by omega)], by go_num, by omega, by omega, by omega, by first | exact d2 | omega, by first | exact d3 | omega, hnx⟩
        case measure => simp [intOf]; omega
      · obtain rfl : k = 4 := by omega
        obtain ⟨h1, h2⟩ := hE.out
        have hm := up_math l0 (show n * 10000 = o * l + r from h1) hr hr'
        have h2' : o < 10000 := h2
        clear h1 h2 hE
        by_cases c1 : 0 < r
        · have c1' : decide (0 < r) = true := by simpa using c1
          rw [if_pos c1] at hm
          have hf := Lib.hid (show min 10000 (o + 1) = min (upDiv (n * 10000) l) 10000 by rw [hm]; omega)
          clear hm
          go_wp2
          all_goals (go_ret; refine ⟨ret_int ?_, rfl⟩; rw [← hf.out]; try omega)
        · have c1' : decide (0 < r) = false := by simpa using c1
          rw [if_neg c1] at hm
          have hf := Lib.hid (show min 10000 o = min (upDiv (n * 10000) l) 10000 by rw [hm]; omega)
          clear hm
          go_wp2
          all_goals (go_ret; refine ⟨ret_int ?_, rfl⟩; rw [← hf.out]; try omega)

set_option maxHeartbeats 4000000 in
set_option maxRecDepth 100000 in
theorem refWater_any (al ah sl sh t : Int) (w : World) (t1 : -9223372036854775808 ≤ t) (t2 : t ≤ 9223372036854775807) :
    Calls Try.prog 31 #[.agg #[.int .i64 al, .int .i64 ah, .int .i64 sl, .int .i64 sh], .int .i64 t] w (IntErr (WaterIs al ah sl sh t) w) := by
  have hpa := Lib.hid fun W => refPart_any al ah sl sh W
  have hin := Lib.hid fun W => refin_any t 1 10000 W
  have hfail : ∀ k : Int, WaterIs al ah sl sh t 0 k → ∀ W', Below w.heap.size w W' → IntErr (WaterIs al ah sl sh t) w (.returned (.tuple #[.int .i64 0, .int .i64 k])) W' := fun k h W' hb => ⟨0, k, rfl, h, hb⟩
  replace hfail := Lib.hid hfail
  go_enter Try.func31, Try.ntmps31
  go_wp2_with fail
  refine calls_world (fun W => Below w.heap.size w W ∧ Blk W w.heap.size 41 #[.int .i64 al, .int .i64 ah, .int .i64 sl, .int .i64 sh]) ⟨(Below.refl _ _).alloc (Nat.le_refl _) _, Blk.new _ _ _⟩ ?_
  rintro W0 ⟨hB0, b0⟩
  refine (hpa.out _).mono ?_
  rintro e W1 ⟨r, rfl, hr, hb1⟩
  have hB1 := hB0.trans (hb1.mono hB0.size)
  replace b0 := b0.below hb1 b0.lt
  clear hb1 hB0 hpa
  cases r with
  | false =>
    have hnf := Lib.hid (hfail.out 1 (.inl ⟨fun h => Bool.noConfusion (hr.2 h), rfl, rfl⟩))
    clear hr hfail
    go_wp2
    go_ret2
    exact hnf.out _ hB1
  | true =>
    have hok := hr.1 rfl
    clear hr
    by_cases c1 : 1 ≤ t ∧ t ≤ 10000
    · have c1' : decide (1 ≤ t ∧ t ≤ 10000) = true := by simpa using c1
      replace c1' := Lib.hid c1'
      have hokh := Lib.hid hok
      obtain ⟨⟨h1, h2, h3⟩, h4, h5, h6⟩ := hok
      dsimp only at h1 h2 h3 h4 h5 h6
      obtain ⟨x0, x1, x2, x3, _, _, _, _⟩ := b0.facts4
      by_cases c2 : sl < t
      · have hnf := Lib.hid (hfail.out 11 (.inr ⟨hokh.out, .inr ⟨c1, .inl ⟨c2, rfl, rfl⟩⟩⟩))
        obtain ⟨c11, c12⟩ := c1
        clear hfail
        go_wp2_with fail
        refine (hin.out _).mono ?_
        rintro e w2 ⟨rfl, rfl⟩
        rw [c1'.out]
        go_wp2
        go_ret2
        exact hnf.out _ hB1
      · have hv : ∃ v, v = min (al * (sl - t) / t) (1099511627776 - ah) := ⟨_, rfl⟩
        obtain ⟨v, hv⟩ := hv
        have hnf : ∀ W', Below w.heap.size w W' → IntErr (WaterIs al ah sl sh t) w (.returned (.tuple #[.int .i64 (min (1099511627776 - ah) (al * (sl - t) / t)), .int .i64 0])) W' := fun W' hb => ⟨_, 0, rfl, .inr ⟨hokh.out, .inr ⟨c1, .inr ⟨by omega, by rw [Int.min_comm], rfl⟩⟩⟩, hb⟩
        replace hnf := Lib.hid hnf
        obtain ⟨c11, c12⟩ := c1
        have m1 : al * (sl - t) ≤ 1099511627776 * 10000 := Int.mul_le_mul (by omega) (by omega) (by omega) (by omega)
        have m0 : 0 ≤ al * (sl - t) := Int.mul_nonneg h2 (by omega)
        have m2 : 0 ≤ al * (sl - t) / t := Int.ediv_nonneg m0 (by omega)
        have m3 : al * (sl - t) / t ≤ al * (sl - t) := Int.ediv_le_self _ m0
        have tz : t ≠ 0 := by omega
        have wd : IntKind.i64.wrap ((al * (sl - t)).tdiv t) = al * (sl - t) / t := by rw [Int.tdiv_eq_ediv_of_nonneg m0]; exact IntWalk.i64_in _ (by omega)
        have w1 : IntKind.i64.wrap (sl - t) = sl - t := IntWalk.i64_in _ (by omega)
        have w2 : IntKind.i64.wrap (al * (sl - t)) = al * (sl - t) := IntWalk.i64_in _ (by omega)
        have w3 : IntKind.i64.wrap (1099511627776 - ah) = 1099511627776 - ah := IntWalk.i64_in _ (by omega)
        clear hfail hv
        go_wp2_with fail
        refine (hin.out _).mono ?_
        rintro e w2' ⟨rfl, rfl⟩
        rw [c1'.out]
        go_upto_region 7 with fail
        have x0' := fun d os => cell_regrown x0 d os
        have x1' := fun d os => cell_regrown x1 d os
        have x2' := fun d os => cell_regrown x2 d os
        have x3' := fun d os => cell_regrown x3 d os
        refine wp_region_quiet_below (by kernel_rfl) (by kernel_rfl) ?_
        repeat (quiet_step (fail))
        refine wpQuiet_nil ?_
        intro _ hw'
        obtain ⟨⟨dq, osq⟩, hw''⟩ := hw'
        subst hw''
        have hb3 := below_regrown w2' dq osq
        have hB3 := hB1.trans (hb3.mono hB1.size)
        clear x0 x1 x2 x3 x0' x1' x2' x3' hb3 hB1 b0 w1 w2 w3 wd
        generalize grow (redrawn w2' dq) osq = W3 at *
        go_wp2
        go_ret2
        exact hnf.out _ hB3
    · have c1' : decide (1 ≤ t ∧ t ≤ 10000) = false := by simpa using c1
      replace c1' := Lib.hid c1'
      have hnf := Lib.hid (hfail.out 2 (.inr ⟨hok, .inl ⟨c1, rfl, rfl⟩⟩))
      clear c1 hfail hok
      go_wp2_with fail
      refine (hin.out _).mono ?_
      rintro e w2 ⟨rfl, rfl⟩
      rw [c1'.out]
      go_wp2
      go_ret2
      exact hnf.out _ hB1
end Go.Proofs.Ytcghafdemklnnaa
