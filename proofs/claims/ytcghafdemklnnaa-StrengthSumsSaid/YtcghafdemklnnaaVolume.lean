/- Volume, whatever the table and the spans are. -/
import Derived.Test.YtcghafdemklnnaaStrength
import Derived.Test.YtcghafdemklnnaaParts
import Derived.Test.YtcghafdemklnnaaOne
namespace Go.Proofs.Ytcghafdemklnnaa
open Go.RowKit Go.Sort
attribute [local go_sem] Oper.calm Oper.calmAt Oper.calmUpon

theorem room_val {T S : List Int} {Rm : List (List Int)} {x s : Int} (hT : AxisOk T (-500) 1000) (hS : AxisOk S 0 10000) (hlen : Rm.length = T.length) (hr : RoomOk Rm S.length) (hx : Within T x) (hs : Within S s) :
    900000 * (valAt T S Rm x s).2 ≤ (valAt T S Rm x s).1 ∧ (valAt T S Rm x s).1 ≤ 1100000 * (valAt T S Rm x s).2 := by
  obtain ⟨p1, p2, p3, p4, p5, p6⟩ := plcOf_bd hT hx
  obtain ⟨q1, q2, q3, q4, q5, q6⟩ := plcOf_bd hS hs
  have hlT := plcOf_lt hT.two x
  have hlS := plcOf_lt hS.two s
  have hc : ∀ i j, i < T.length → j < S.length → 900000 ≤ cellAt Rm i j ∧ cellAt Rm i j ≤ 1100000 := fun i j hi hj => by
    have h1 := hr i (by omega)
    exact h1.2 j (by rw [h1.1]; exact hj)
  have bu0 := hc (plcOf T x) (plcOf S s) (by omega) (by omega)
  have bu1 := hc (plcOf T x) (plcOf S s + 1) (by omega) (by omega)
  have bl0 := hc (plcOf T x + 1) (plcOf S s) (by omega) (by omega)
  have bl1 := hc (plcOf T x + 1) (plcOf S s + 1) (by omega) (by omega)
  unfold valAt valNum valDen
  dsimp only
  generalize x - T[plcOf T x]?.getD 0 = rp at *
  generalize T[plcOf T x + 1]?.getD 0 - x = rl at *
  generalize s - S[plcOf S s]?.getD 0 = cp at *
  generalize S[plcOf S s + 1]?.getD 0 - s = cl at *
  generalize cellAt Rm (plcOf T x) (plcOf S s) = u0 at *
  generalize cellAt Rm (plcOf T x) (plcOf S s + 1) = u1 at *
  generalize cellAt Rm (plcOf T x + 1) (plcOf S s) = l0 at *
  generalize cellAt Rm (plcOf T x + 1) (plcOf S s + 1) = l1 at *
  have key : ∀ a b k m : Int, 0 ≤ a → 0 ≤ b → 900000 * m ≤ k → k ≤ 1100000 * m → 900000 * (a * m) ≤ a * k ∧ a * k ≤ 1100000 * (a * m) := fun a b k m ha _ h1 h2 => by
    have e1 := Int.mul_le_mul_of_nonneg_left h1 ha
    have e2 := Int.mul_le_mul_of_nonneg_left h2 ha
    rw [Int.mul_left_comm] at e1 e2
    exact ⟨e1, e2⟩
  have k1 := key cl cl u0 1 q3 q3 (by omega) (by omega)
  have k2 := key cp cp u1 1 q1 q1 (by omega) (by omega)
  have k3 := key cl cl l0 1 q3 q3 (by omega) (by omega)
  have k4 := key cp cp l1 1 q1 q1 (by omega) (by omega)
  have k5 := key rl rl (cl * u0 + cp * u1) (cp + cl) p3 p3 (by omega) (by omega)
  have k6 := key rp rp (cl * l0 + cp * l1) (cp + cl) p1 p1 (by omega) (by omega)
  have e : (rp + rl) * (cp + cl) = rp * (cp + cl) + rl * (cp + cl) := Int.add_mul _ _ _
  rw [e]
  omega

theorem room_ok {T S : List Int} {Rm : List (List Int)} {slo shi xlo xhi : Int} (hT : AxisOk T (-500) 1000) (hS : AxisOk S 0 10000) (hlen : Rm.length = T.length) (hr : RoomOk Rm S.length) (hx : Within T xlo ∧ Within T xhi) (hs : Within S slo ∧ Within S shi) (lt : Int × Int → Int × Int → Bool) :
    900000 * (bestF lt (cornersL T S Rm slo shi xlo xhi)).2 ≤ (bestF lt (cornersL T S Rm slo shi xlo xhi)).1 ∧ (bestF lt (cornersL T S Rm slo shi xlo xhi)).1 ≤ 1100000 * (bestF lt (cornersL T S Rm slo shi xlo xhi)).2 := by
  have hall : ∀ q ∈ cornersL T S Rm slo shi xlo xhi, 0 < q.2 ∧ 900000 * q.2 ≤ q.1 ∧ q.1 ≤ 1100000 * q.2 := by
    intro q hq
    obtain ⟨x, s, h5, h6, rfl⟩ := mem_corners hq
    exact ⟨(val_ok hT hS (gridOk_room hlen hr) (bends_within hx.1 hx.2 h5) (bends_within hs.1 hs.2 h6)).1.2.2.1, room_val hT hS hlen hr (bends_within hx.1 hx.2 h5) (bends_within hs.1 hs.2 h6)⟩
  exact (hall _ (bestF_in corners_ne fun p hp => (hall p hp).1)).2

theorem ediv_room {a p1 p2 A : Int} (ha : 0 ≤ a) (ha' : a ≤ A) (h2 : 0 < p2) (h1 : 900000 * p2 ≤ p1) : 0 ≤ a * p2 / p1 ∧ a * p2 / p1 ≤ A / 900000 := by
  have hp : 0 < p1 := by omega
  refine ⟨Int.ediv_nonneg (Int.mul_nonneg ha (by omega)) (by omega), ?_⟩
  rw [Int.le_ediv_iff_mul_le (by omega)]
  have e1 : a * p2 / p1 * p1 ≤ a * p2 := Int.ediv_mul_le _ (by omega)
  have e0 : 0 ≤ a * p2 / p1 := Int.ediv_nonneg (Int.mul_nonneg ha (by omega)) (by omega)
  generalize a * p2 / p1 = q at *
  have e2 : q * (900000 * p2) ≤ q * p1 := Int.mul_le_mul_of_nonneg_left h1 e0
  have e3 : (q * 900000) * p2 ≤ a * p2 := by rw [Int.mul_assoc]; omega
  have := Int.le_of_mul_le_mul_right e3 h2
  omega

def VolumeIs (T S : List Int) (Sh Rm : List (List Int)) (lo hi slo shi xlo xhi a b k : Int) : Prop :=
  (¬ (TableOk T S Sh Rm ∧ (lo ≤ hi ∧ 0 ≤ lo ∧ hi ≤ 1099511627776)) ∧ a = 0 ∧ b = 0 ∧ k = 1) ∨
  (TableOk T S Sh Rm ∧ (lo ≤ hi ∧ 0 ≤ lo ∧ hi ≤ 1099511627776) ∧ ((¬ (FitsIn S slo shi ∧ FitsIn T xlo xhi) ∧ a = 0 ∧ b = 0 ∧ k = 2) ∨
  ((FitsIn S slo shi ∧ FitsIn T xlo xhi) ∧ ((1099511627776 < upDiv (hi * 1000000 * (lowF T S Rm slo shi xlo xhi).2) (lowF T S Rm slo shi xlo xhi).1 ∧ a = 0 ∧ b = 0 ∧ k = 11) ∨
  (upDiv (hi * 1000000 * (lowF T S Rm slo shi xlo xhi).2) (lowF T S Rm slo shi xlo xhi).1 ≤ 1099511627776 ∧ a = lo * 1000000 * (highF T S Rm slo shi xlo xhi).2 / (highF T S Rm slo shi xlo xhi).1 ∧ b = upDiv (hi * 1000000 * (lowF T S Rm slo shi xlo xhi).2) (lowF T S Rm slo shi xlo xhi).1 ∧ k = 0)))))

set_option maxHeartbeats 8000000 in
set_option maxRecDepth 100000 in
theorem Volume_any {M : Int} (hM : Hid (DivFor M)) (A0 A1 A2 A3 : Option Addr) (c0 c1 c2 c3 : Nat) (T S : List Int) (Sh Rm : List (List Int)) (lo hi slo shi xlo xhi : Int) (w : World) (ht : Hid (TableAt w A0 A1 A2 A3 T S Sh Rm))
    (hbig : Hid ((lo ≤ hi ∧ 0 ≤ lo ∧ hi ≤ 1099511627776) → hi * 15000000000000 < M)) :
    Calls Try.prog 22 #[.agg #[.slice A0 T.length c0, .slice A1 S.length c1, .slice A2 Sh.length c2, .slice A3 Rm.length c3], .agg #[.int .i64 lo, .int .i64 hi], .agg #[.int .i64 slo, .int .i64 shi], .agg #[.int .i64 xlo, .int .i64 xhi]] w (SpanErr (VolumeIs T S Sh Rm lo hi slo shi xlo xhi) w) := by
  have hval := Lib.hid fun W (hb : Below w.heap.size w W) => validTable_any A0 A1 A2 A3 c0 c1 c2 c3 T S Sh Rm W (Lib.hid (ht.out.below hb))
  go_enter Try.func22, Try.ntmps22
  go_wp2_with fail
  refine calls_world (fun W => Below w.heap.size w W ∧ Blk W w.heap.size 25 #[.slice A0 T.length c0, .slice A1 S.length c1, .slice A2 Sh.length c2, .slice A3 Rm.length c3] ∧ Blk W (w.heap.size + 1) 27 #[.int .i64 lo, .int .i64 hi] ∧ Blk W (w.heap.size + 1 + 1) 27 #[.int .i64 slo, .int .i64 shi] ∧ Blk W (w.heap.size + 1 + 1 + 1) 27 #[.int .i64 xlo, .int .i64 xhi] ∧ Blk W (w.heap.size + 1 + 1 + 1 + 1) 27 #[.int .i64 0, .int .i64 0])
    ⟨(((((Below.refl _ _).alloc (Nat.le_refl _) _).alloc (by simp) _).alloc (by simp; omega) _).alloc (by simp; omega) _).alloc (by simp; omega) _, ((((blk_at rfl).alloc _).alloc _).alloc _).alloc _, (((blk_at (by simp)).alloc _).alloc _).alloc _, ((blk_at (by simp)).alloc _).alloc _, (blk_at (by simp)).alloc _, blk_at (by simp)⟩ ?_
  rintro W0 ⟨hB0, b0, b1, b2, b3, b4⟩
  refine (hval.out W0 hB0).mono ?_
  rintro e W1 ⟨r, rfl, hr, hb1⟩
  replace hr := Lib.hid hr
  have hB1 := hB0.trans (hb1.mono hB0.size)
  replace b0 := b0.below hb1 b0.lt
  replace b1 := b1.below hb1 b1.lt
  replace b2 := b2.below hb1 b2.lt
  replace b3 := b3.below hb1 b3.lt
  replace b4 := b4.below hb1 b4.lt
  clear hb1 hB0 hval
  obtain ⟨y0, y1, _, _⟩ := b1.facts2
  obtain ⟨r0, r1, _, _⟩ := b4.facts2
  have n1 : w.heap.size + 1 + 1 + 1 + 1 < W1.heap.size := b4.lt
  have hfail : ∀ k : Int, VolumeIs T S Sh Rm lo hi slo shi xlo xhi 0 0 k → ∀ W', Below w.heap.size w W' → SpanErr (VolumeIs T S Sh Rm lo hi slo shi xlo xhi) w (.returned (.tuple #[.agg #[.int .i64 0, .int .i64 0], .int .i64 k])) W' := fun k h W' hb => ⟨0, 0, k, rfl, h, hb⟩
  replace hfail := Lib.hid hfail
  by_cases hok : TableOk T S Sh Rm
  · have hrt : r = true := hr.out.2 hok
    subst hrt
    clear hr
    obtain ⟨tb, toff, sb, soff, rb, roff, mb, moff, rfl, rfl, rfl, rfl, tab⟩ := tab_of (ht.out.below hB1) hok
    replace tab := Lib.hid tab
    clear ht
    have hwi := Lib.hid fun W => within_any lo hi 0 1099511627776 W
    go_wp2_with fail
    refine (hwi.out _).mono ?_
    rintro e W2 ⟨r, rfl, hr, hb2⟩
    replace hr := Lib.hid hr
    have hB2 := hB1.trans (hb2.mono hB1.size)
    replace tab := Lib.hid (tab.out.below hb2)
    replace b0 := b0.below hb2 b0.lt
    replace b1 := b1.below hb2 b1.lt
    replace b2 := b2.below hb2 b2.lt
    replace b3 := b3.below hb2 b3.lt
    replace b4 := b4.below hb2 b4.lt
    clear y0 y1 r0 r1 hb2 hB1 n1 hwi
    obtain ⟨y0, y1, _, _⟩ := b1.facts2
    obtain ⟨t0, t1, t2, t3, _, _, _, _⟩ := b0.facts4
    obtain ⟨x0, x1, _, _⟩ := b2.facts2
    obtain ⟨z0, z1, _, _⟩ := b3.facts2
    obtain ⟨r0, r1, _, _⟩ := b4.facts2
    have n1 : w.heap.size + 1 + 1 + 1 + 1 < W2.heap.size := b4.lt
    have T2 := tab.out.oT.two
    have T32 := tab.out.oT.most
    have S2 := tab.out.oS.two
    have S32 := tab.out.oS.most
    have hft := Lib.hid fun W (hb : Below W2.heap.size W2 W) => fits_any xlo xhi tb toff c0 T W (by omega) (by omega) (tab.out.rT.below hb)
    have hfs := Lib.hid fun W (hb : Below W2.heap.size W2 W) => fits_any slo shi sb soff c1 S W (by omega) (by omega) (tab.out.rS.below hb)
    by_cases hsp : lo ≤ hi ∧ 0 ≤ lo ∧ hi ≤ 1099511627776
    · have hrt : r = true := hr.out.2 hsp
      subst hrt
      clear hr
      by_cases hfi : FitsIn S slo shi ∧ FitsIn T xlo xhi
      · have hx := Lib.hid hfi.2.within
        have hs := Lib.hid hfi.1.within
        have hlow := low_ok tab.out.oT tab.out.oS tab.out.rm hx.out hs.out ltF
        have hhigh := low_ok tab.out.oT tab.out.oS tab.out.rm hx.out hs.out gtF
        have hlow' := room_ok tab.out.oT tab.out.oS tab.out.rm.len tab.out.ro hx.out hs.out ltF
        have hhigh' := room_ok tab.out.oT tab.out.oS tab.out.rm.len tab.out.ro hx.out hs.out gtF
        have hex := fun W (hb : Below W2.heap.size W2 W) => extremes_any tb toff c0 sb soff c1 mb moff c3 (.slice (some ⟨rb, roff, none⟩) Sh.length c2) (.slice (some ⟨mb, moff, none⟩) Rm.length c3) T S Rm slo shi xlo xhi ⟨_, _, _, rfl⟩ ⟨_, _, _, rfl⟩ (Lib.hid tab.out.oT) (Lib.hid tab.out.oS) (Lib.hid tab.out.rm) hx hs W (tab.out.rT.below hb) (tab.out.rS.below hb) (tab.out.rRm.below hb)
        have hfin : ∀ p q : Int × Int, lowF T S Rm slo shi xlo xhi = p → highF T S Rm slo shi xlo xhi = q →
            (1099511627776 < upDiv (hi * 1000000 * p.2) p.1 → VolumeIs T S Sh Rm lo hi slo shi xlo xhi 0 0 11) ∧ (upDiv (hi * 1000000 * p.2) p.1 ≤ 1099511627776 → VolumeIs T S Sh Rm lo hi slo shi xlo xhi (lo * 1000000 * q.2 / q.1) (upDiv (hi * 1000000 * p.2) p.1) 0) := by
          rintro p q rfl rfl
          exact ⟨fun h => .inr ⟨hok, hsp, .inr ⟨hfi, .inl ⟨h, rfl, rfl, rfl⟩⟩⟩, fun h => .inr ⟨hok, hsp, .inr ⟨hfi, .inr ⟨h, rfl, rfl, rfl⟩⟩⟩⟩
        change FracOk (lowF T S Rm slo shi xlo xhi) ∧ (lowF T S Rm slo shi xlo xhi).2 ≤ _ ∧ _ ≤ (lowF T S Rm slo shi xlo xhi).1 ∧ (lowF T S Rm slo shi xlo xhi).1 ≤ _ at hlow
        change FracOk (highF T S Rm slo shi xlo xhi) ∧ (highF T S Rm slo shi xlo xhi).2 ≤ _ ∧ _ ≤ (highF T S Rm slo shi xlo xhi).1 ∧ (highF T S Rm slo shi xlo xhi).1 ≤ _ at hhigh
        change _ * (lowF T S Rm slo shi xlo xhi).2 ≤ (lowF T S Rm slo shi xlo xhi).1 ∧ (lowF T S Rm slo shi xlo xhi).1 ≤ _ * (lowF T S Rm slo shi xlo xhi).2 at hlow'
        change _ * (highF T S Rm slo shi xlo xhi).2 ≤ (highF T S Rm slo shi xlo xhi).1 ∧ (highF T S Rm slo shi xlo xhi).1 ≤ _ * (highF T S Rm slo shi xlo xhi).2 at hhigh'
        generalize hp : lowF T S Rm slo shi xlo xhi = p at hlow hlow' hex
        generalize hqq : highF T S Rm slo shi xlo xhi = q at hhigh hhigh' hex
        replace hfin := Lib.hid (hfin p q hp hqq)
        clear hp hqq
        obtain ⟨p1, p2⟩ := p
        obtain ⟨q1, q2⟩ := q
        unfold FracOk at hlow hhigh
        dsimp only at hex hfin hlow hhigh hlow' hhigh'
        obtain ⟨⟨a1, a2, a3, a4⟩, a5, a6, a7⟩ := hlow
        obtain ⟨⟨d1, d2, d3, d4⟩, d5, d6, d7⟩ := hhigh
        obtain ⟨a8, a9⟩ := hlow'
        obtain ⟨d8, d9⟩ := hhigh'
        obtain ⟨hsp1, hsp2, hsp3⟩ := hsp
        have v1 := ediv_room (a := lo * 1000000) (A := 1099511627776000000) (by omega) (by omega) d3 d8
        have v2 := ediv_room (a := hi * 1000000) (A := 1099511627776000000) (by omega) (by omega) a3 a8
        have g1 : lo * 1000000 * q2 ≤ hi * 1000000 * 15000000 := Int.mul_le_mul (by omega) (by omega) (by omega) (by omega)
        have g2 : hi * 1000000 * p2 ≤ hi * 1000000 * 15000000 := Int.mul_le_mul_of_nonneg_left (by omega) (by omega)
        have hbig' := hbig.out ⟨hsp1, hsp2, hsp3⟩
        obtain ⟨vl, hvl⟩ : ∃ vl, lo * 1000000 * q2 / q1 = vl := ⟨_, rfl⟩
        obtain ⟨vh, hvh⟩ : ∃ vh, upDiv (hi * 1000000 * p2) p1 = vh := ⟨_, rfl⟩
        have v3 := @upDiv_bd (hi * 1000000 * p2) p1
        rw [hvl] at v1 hfin
        rw [hvh] at v3 hfin
        have hdn := Lib.hid fun W => partDown_any hM.out (lo * 1000000) q2 q1 vl W (by omega) (by omega) (by omega) (by omega) (by omega) (by omega) (by omega) hvl (by omega)
        have hup := Lib.hid fun W => partUp_any hM.out (hi * 1000000) p2 p1 vh W (by omega) (by omega) (by omega) (by omega) (by omega) (by omega) (by omega) hvh (by omega)
        have vh1 : 0 ≤ vh := by omega
        have hfi1 := Lib.hid hfi.1
        have hfi2 := Lib.hid hfi.2
        clear hvl hvh v3 g1 g2 hbig' v2 hok hfi hx hs hbig hM
        replace hex := Lib.hid hex
        go_wp2_with fail
        refine (hfs.out _ (Below.refl _ _)).mono ?_
        rintro e W3 ⟨r, rfl, hr, hb3⟩
        have hrt : r = true := hr.2 hfi1.out
        subst hrt
        have hB3 := hB2.trans (hb3.mono hB2.size)
        replace b0 := b0.below hb3 b0.lt
        replace b1 := b1.below hb3 b1.lt
        replace b2 := b2.below hb3 b2.lt
        replace b3 := b3.below hb3 b3.lt
        replace b4 := b4.below hb3 b4.lt
        clear hr y0 y1 t0 t1 t2 t3 x0 x1 z0 z1 r0 r1 hfs hB2
        obtain ⟨t0, t1, t2, t3, _, _, _, _⟩ := b0.facts4
        obtain ⟨z0, z1, _, _⟩ := b3.facts2
        go_wp2_with fail
        refine (hft.out _ hb3).mono ?_
        rintro e W4 ⟨r, rfl, hr, hb4⟩
        have hrt : r = true := hr.2 hfi2.out
        subst hrt
        have hB4 := hB3.trans (hb4.mono hB3.size)
        replace b0 := b0.below hb4 b0.lt
        replace b1 := b1.below hb4 b1.lt
        replace b2 := b2.below hb4 b2.lt
        replace b3 := b3.below hb4 b3.lt
        replace b4 := b4.below hb4 b4.lt
        replace hb4 := hb3.trans (hb4.mono hb3.size)
        clear hr t0 t1 t2 t3 z0 z1 hft hb3 hB3
        obtain ⟨t0, t1, t2, t3, _, _, _, _⟩ := b0.facts4
        obtain ⟨x0, x1, _, _⟩ := b2.facts2
        obtain ⟨z0, z1, _, _⟩ := b3.facts2
        go_wp2_with fail
        refine (hex.out W4 hb4).mono ?_
        rintro e W5 ⟨rfl, hb5⟩
        have hB5 := hB4.trans (hb5.mono hB4.size)
        replace b1 := b1.below hb5 b1.lt
        replace b4 := b4.below hb5 b4.lt
        clear t0 t1 t2 t3 x0 x1 z0 z1 hex hb5 hb4 hB4 b0 b2 b3
        go_upto_region 6 with fail
        refine wp_world (fun W => Below w.heap.size w W ∧ Blk W W5.heap.size 77 #[.int .i64 p1, .int .i64 p2] ∧ Blk W (W5.heap.size + 1) 77 #[.int .i64 q1, .int .i64 q2] ∧ Blk W (w.heap.size + 1) 27 #[.int .i64 lo, .int .i64 hi] ∧ Blk W (w.heap.size + 1 + 1 + 1 + 1) 27 #[.int .i64 0, .int .i64 0])
          ⟨(hB5.alloc hB5.size _).alloc (hB5.alloc hB5.size _).size _, (Blk.new _ _ _).alloc _, blk_at (by simp), (b1.alloc _).alloc _, (b4.alloc _).alloc _⟩ ?_
        clear b1 b4 hB5
        generalize W5.heap.size = g5
        rintro W6 ⟨hB6, bp, bq, b1, b4⟩
        obtain ⟨y0, y1, _, _⟩ := b1.facts2
        obtain ⟨k0, k1, _, _⟩ := bp.facts2
        obtain ⟨j0, j1, _, _⟩ := bq.facts2
        have y0' := fun d os => cell_regrown y0 d os
        have y1' := fun d os => cell_regrown y1 d os
        have k0' := fun d os => cell_regrown k0 d os
        have k1' := fun d os => cell_regrown k1 d os
        have j0' := fun d os => cell_regrown j0 d os
        have j1' := fun d os => cell_regrown j1 d os
        have hw1 : IntKind.i64.wrap (lo * 1000000) = lo * 1000000 := IntWalk.i64_in _ (by omega)
        have hw2 : IntKind.i64.wrap (hi * 1000000) = hi * 1000000 := IntWalk.i64_in _ (by omega)
        refine wp_region_one_below 17 12 27 #[.int .i64 0, .int .i64 0] (by kernel_rfl) (by kernel_rfl) ⟨_, rfl, rfl, rfl, fun a w => by kernel_rfl⟩ (by kernel_rfl) (by kernel_rfl) ?_
        simp only [List.take_succ_cons, List.take_zero, List.drop_succ_cons, List.drop_zero]
        repeat ((refine wpCalm_step (fun K hK => ?_)); go_simp; first | (refine hK _ ?_; clear hK K) | (apply Exists.intro; refine ⟨fun _ => ?_, hK _ ?_⟩; (first | (go_at_call 61; exact calm_call (fun W1 _ => hdn.out W1)) | (go_at_call 62; exact calm_call (fun W1 _ => hup.out W1))); clear hK K))
        refine wpCalm_nil ?_
        intro w7 g1 hb7 hV hg1
        simp only [Act.put, List.setIfInBounds_toArray, List.set_cons_zero, List.set_cons_succ]
        have hB7 := hB6.trans (hb7.mono hB6.size)
        have n7 := b4.lt
        have hne : w.heap.size + 1 + 1 + 1 + 1 ≠ g1 := by omega
        replace b4 := b4.below hb7 b4.lt
        clear y0 y1 k0 k1 j0 j1 y0' y1' k0' k1' j0' j1' hw1 hw2 hdn hup bp bq b1 hb7 hB6
        obtain ⟨y0, y1, y2, y3⟩ := hV.facts2
        go_upto_region 7 with fail
        refine wp_world (fun W => Below w.heap.size w W ∧ Blk W g1 27 #[.int .i64 vl, .int .i64 vh] ∧ Blk W (w.heap.size + 1 + 1 + 1 + 1) 27 #[.int .i64 0, .int .i64 0])
          ⟨(hB7.setCell (by simp only; omega) _).setCell (by simp only; omega) _, (hV.set_ 0 _).set_ 1 _, (b4.far hne _).far hne _⟩ ?_
        clear y0 y1 y2 y3 hV b4 hB7
        rintro W8 ⟨hB8, hV, b4⟩
        obtain ⟨y0, y1, y2, y3⟩ := hV.facts2
        obtain ⟨r0, r1, _, _⟩ := b4.facts2
        by_cases hgt : 1099511627776 < vh
        · have hnf := Lib.hid (hfin.out.1 hgt)
          clear hfin
          go_wp2_with fail
          refine bodyPost_ret (v := .tuple #[.agg #[.int .i64 0, .int .i64 0], .int .i64 11]) (by simp [results, Try.results22, go_sem, r0, r1]) rfl ?_
          exact hfail.out 11 hnf.out _ ((hB8.setCell (by simp only; omega) _).setCell (by simp only; omega) _)
        · have hnf := Lib.hid (hfin.out.2 (by omega))
          clear hfin
          have hle : vh ≤ 1099511627776 := by omega
          go_wp2_with fail
          refine bodyPost_ret (v := .tuple #[.agg #[.int .i64 vl, .int .i64 vh], .int .i64 0]) (by simp [results, Try.results22, go_sem, r0, r1]) rfl ?_
          exact ⟨_, _, 0, rfl, hnf.out, (hB8.setCell (by simp only; omega) _).setCell (by simp only; omega) _⟩
      · have hnf := Lib.hid (show VolumeIs T S Sh Rm lo hi slo shi xlo xhi 0 0 2 from .inr ⟨hok, hsp, .inl ⟨hfi, rfl, rfl, rfl⟩⟩)
        replace hsp := Lib.hid hsp
        go_wp2_with fail
        refine (hfs.out _ (Below.refl _ _)).mono ?_
        rintro e W3 ⟨q, rfl, hq, hb3⟩
        replace hq := Lib.hid hq
        have hB3 := hB2.trans (hb3.mono hB2.size)
        replace b0 := b0.below hb3 b0.lt
        replace b3 := b3.below hb3 b3.lt
        replace b4 := b4.below hb3 b4.lt
        clear y0 y1 t0 t1 t2 t3 x0 x1 z0 z1 r0 r1
        obtain ⟨r0, r1, _, _⟩ := b4.facts2
        obtain ⟨t0, t1, t2, t3, _, _, _, _⟩ := b0.facts4
        obtain ⟨z0, z1, _, _⟩ := b3.facts2
        have n3 := b4.lt
        cases q with
        | false =>
          go_wp2_with fail
          refine bodyPost_ret (v := .tuple #[.agg #[.int .i64 0, .int .i64 0], .int .i64 2]) (by simp [results, Try.results22, go_sem, r0, r1]) rfl ?_
          exact hfail.out 2 hnf.out _ ((hB3.setCell (by simp only; omega) _).setCell (by simp only; omega) _)
        | true =>
          go_wp2_with fail
          refine (hft.out _ hb3).mono ?_
          rintro e W4 ⟨q, rfl, hq4, hb4⟩
          have hqf : q = false := by cases q with | false => rfl | true => exact absurd ⟨hq.out.1 (by trivial), hq4.1 (by trivial)⟩ hfi
          subst hqf
          have hB4 := hB3.trans (hb4.mono hB3.size)
          replace b4 := b4.below hb4 b4.lt
          clear hq hq4 t0 t1 t2 t3 z0 z1 r0 r1 hfi
          obtain ⟨r0, r1, _, _⟩ := b4.facts2
          go_wp2_with fail
          refine bodyPost_ret (v := .tuple #[.agg #[.int .i64 0, .int .i64 0], .int .i64 2]) (by simp [results, Try.results22, go_sem, r0, r1]) rfl ?_
          exact hfail.out 2 hnf.out _ ((hB4.setCell (by simp only; omega) _).setCell (by simp only; omega) _)
    · have hrf : r = false := by cases r with | false => rfl | true => exact absurd (hr.out.1 rfl) hsp
      subst hrf
      have hnf := Lib.hid (show VolumeIs T S Sh Rm lo hi slo shi xlo xhi 0 0 1 from .inl ⟨fun h => hsp h.2, rfl, rfl, rfl⟩)
      clear hr hsp
      go_wp2_with fail
      refine bodyPost_ret (v := .tuple #[.agg #[.int .i64 0, .int .i64 0], .int .i64 1]) (by simp [results, Try.results22, go_sem, r0, r1]) rfl ?_
      exact hfail.out 1 hnf.out _ ((hB2.setCell (by simp only; omega) _).setCell (by simp only; omega) _)
  · have hrf : r = false := by cases r with | false => rfl | true => exact absurd (hr.out.1 rfl) hok
    subst hrf
    clear hr ht
    have hnf : VolumeIs T S Sh Rm lo hi slo shi xlo xhi 0 0 1 := .inl ⟨fun h => hok h.1, rfl, rfl, rfl⟩
    go_wp2_with fail
    refine bodyPost_ret (v := .tuple #[.agg #[.int .i64 0, .int .i64 0], .int .i64 1]) (by simp [results, Try.results22, go_sem, r0, r1]) rfl ?_
    exact hfail.out 1 hnf _ ((hB1.setCell (by simp only; omega) _).setCell (by simp only; omega) _)
end Go.Proofs.Ytcghafdemklnnaa
