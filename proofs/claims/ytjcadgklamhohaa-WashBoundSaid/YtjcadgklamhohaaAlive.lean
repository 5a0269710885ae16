/- sample, alive: the results that the document fixes, in any memory. -/
import Derived.Test.YtjcadgklamhohaaHour2
import Derived.Test.YtjcadgklamhohaaMash
import Derived.Test.YtjcadgklamhohaaRooms
namespace Go.Proofs.Ytjcadgklamhohaa
open Go.RowKit Go.Sort
attribute [local go_sem] Oper.calm Oper.calmAt Oper.calmUpon

def exY : YeastV := ⟨[20000, 30000], [(10, 20), (50, 100), (0, 5)], 640, 650, 480, 490, 600, 600⟩
def exV : VatV := ⟨1000000, 1000000, 0, 0, 0, 0, 0, 0, 0, 0, 25000, 25000, 40000000⟩
theorem exY_ok : YeastOk exY := by
  refine ⟨by decide, by decide, fun i hi => ?_, fun i hi => ?_, by decide, by decide, by decide⟩
  · match i, hi with
    | 0, _ => exact ⟨by decide, fun h => absurd h (by omega)⟩
    | 1, _ => exact ⟨by decide, fun _ => by decide⟩
    | i + 2, hi => exact absurd hi (by simp [exY])
  · match i, hi with
    | 0, _ => decide
    | 1, _ => decide
    | 2, _ => decide
    | i + 3, hi => exact absurd hi (by simp [exY])
theorem exY_at {w : World} {a b : Nat} {t u : TypeId} (h1 : Blk w a t #[.int .i64 20000, .int .i64 30000]) (h2 : Blk w b u #[.int .i64 10, .int .i64 20, .int .i64 50, .int .i64 100, .int .i64 0, .int .i64 5]) : YeastAt w (some ⟨a, 0, none⟩) (some ⟨b, 0, none⟩) exY := by
  refine ⟨fun _ => ⟨a, 0, rfl, h1.lt, fun i hi => ?_⟩, fun _ => ⟨b, 0, rfl, h2.lt, fun i hi => ?_⟩, by decide, by decide⟩
  · match i, hi with
    | 0, _ => exact h1.cell 0
    | 1, _ => exact h1.cell 1
    | i + 2, hi => exact absurd hi (by simp [exY])
  · match i, hi with
    | 0, _ => exact ⟨h2.cell 0, h2.cell 1⟩
    | 1, _ => exact ⟨h2.cell 2, h2.cell 3⟩
    | 2, _ => exact ⟨h2.cell 4, h2.cell 5⟩
    | i + 3, hi => exact absurd hi (by simp [exY])
theorem exV_ok : VatOk exV := by decide
theorem ex_hour {r : VatV × Int} (h : HourIs exY exV 1000 1200 r) : r = (⟨900000, 950000, 50000, 100000, 32000, 65000, 24000, 49000, 24000, 49000, 24550, 25500, 40000000⟩, 0) :=
  HourIs.uniq (r := (⟨900000, 950000, 50000, 100000, 32000, 65000, 24000, 49000, 24000, 49000, 24550, 25500, 40000000⟩, 0)) (.inr ⟨⟨exY_ok, exV_ok, allIn_one.2 (by decide)⟩, by decide +kernel⟩) h
theorem ex_mash : mashR 1000 4000 700 750 1000 1200 = ⟨490, 563, 2800, 3000, 175, 225, 0⟩ := by kernel_rfl
theorem ex_vent {n k : Int} (h : VentIs 100 400 n k) : n = 250 ∧ k = 0 := by
  refine VentIs.uniq (.inr ⟨by decide, .inr ⟨rfl, by decide, by decide, by decide +kernel, fun i h0 h1 he => ?_⟩⟩) h
  obtain ⟨h2, h3⟩ := he
  unfold boundR at h3
  rw [if_neg (by decide)] at h3
  have := (upQ_iff (a := 100 * (1000 - i)) (b := i) (n := 300) (by omega)).1 (by omega)
  omega

set_option maxHeartbeats 4000000 in
set_option maxRecDepth 100000 in
theorem sample_any (w : World) : Calls Try.prog 37 #[] w fun e w' => ∃ a b, e = .returned (.tuple #[.agg #[.slice (some ⟨a, 0, none⟩) 2 2, .slice (some ⟨b, 0, none⟩) 3 3, .int .i64 640, .int .i64 650, .int .i64 480, .int .i64 490, .int .i64 600, .int .i64 600], .agg #[.int .i64 1000000, .int .i64 1000000, .int .i64 0, .int .i64 0, .int .i64 0, .int .i64 0, .int .i64 0, .int .i64 0, .int .i64 0, .int .i64 0, .int .i64 25000, .int .i64 25000, .int .i64 40000000]]) ∧ Hid (YeastAt w' (some ⟨a, 0, none⟩) (some ⟨b, 0, none⟩) exY) ∧ Below w.heap.size w w' := by
  go_enter Try.func37, Try.ntmps37
  go_wp2
  refine ret_world (fun W => Below w.heap.size w W ∧ Blk W w.heap.size 36 #[.slice (some ⟨w.heap.size + 1 + 1, 0, none⟩) 2 2, .slice (some ⟨w.heap.size + 1 + 1 + 1, 0, none⟩) 3 3, .int .i64 640, .int .i64 650, .int .i64 480, .int .i64 490, .int .i64 600, .int .i64 600] ∧ Blk W (w.heap.size + 1) 38 #[.int .i64 1000000, .int .i64 1000000, .int .i64 0, .int .i64 0, .int .i64 0, .int .i64 0, .int .i64 0, .int .i64 0, .int .i64 0, .int .i64 0, .int .i64 25000, .int .i64 25000, .int .i64 40000000] ∧ Blk W (w.heap.size + 1 + 1) 3 #[.int .i64 20000, .int .i64 30000] ∧ Blk W (w.heap.size + 1 + 1 + 1) 23 #[.int .i64 10, .int .i64 20, .int .i64 50, .int .i64 100, .int .i64 0, .int .i64 5])
    ⟨(((((Below.refl _ _).alloc (Nat.le_refl _) _).alloc (by simp) _).alloc (by simp; omega) _).alloc (by simp; omega) _).alloc (by simp; omega) _, ((((Blk.new _ _ _).alloc _).alloc _).alloc _).alloc _, (((blk_at (by simp)).alloc _).alloc _).alloc _, ((blk_at (by simp)).alloc _).alloc _, (blk_at (by simp)).alloc _⟩ ?_
  rintro W ⟨hB, b0, b1, b2, b3⟩
  have hat := Lib.hid (exY_at b2 b3)
  obtain ⟨x0, x1, x2, x3, x4, x5, x6, x7⟩ := b0.facts8
  obtain ⟨v0, v1, v2, v3, v4, v5, v6, v7, v8, v9, v10, v11, v12⟩ := b1.facts13
  clear b0 b1 b2 b3
  refine bodyPost_ret (v := .tuple #[.agg #[.slice (some ⟨w.heap.size + 1 + 1, 0, none⟩) 2 2, .slice (some ⟨w.heap.size + 1 + 1 + 1, 0, none⟩) 3 3, .int .i64 640, .int .i64 650, .int .i64 480, .int .i64 490, .int .i64 600, .int .i64 600], .agg #[.int .i64 1000000, .int .i64 1000000, .int .i64 0, .int .i64 0, .int .i64 0, .int .i64 0, .int .i64 0, .int .i64 0, .int .i64 0, .int .i64 0, .int .i64 25000, .int .i64 25000, .int .i64 40000000]]) (by simp [results, Try.results37, go_sem, x0, x1, x2, x3, x4, x5, x6, x7, v0, v1, v2, v3, v4, v5, v6, v7, v8, v9, v10, v11, v12]) rfl ⟨_, _, rfl, hat, hB⟩

set_option maxHeartbeats 8000000 in
set_option maxRecDepth 100000 in
theorem alive_any (w : World) : Calls Try.prog 18 #[] w fun e w' => e = .returned (.bool true) ∧ Below w.heap.size w w' := by
  have hsm := Lib.hid sample_any
  have hho := Lib.hid fun a b W (h : Hid (YeastAt W (some ⟨a, 0, none⟩) (some ⟨b, 0, none⟩) exY)) => Hour_any exY (some ⟨a, 0, none⟩) 2 (some ⟨b, 0, none⟩) 3 exV 1000 1200 W h (by decide)
  have hma := Lib.hid fun W => Mash_any 1000 4000 700 750 1000 1200 W
  rw [ex_mash] at hma
  have hve := Lib.hid fun W => Vent_any 100 400 W
  have hex := Lib.hid fun r (h : HourIs exY exV 1000 1200 r) => ex_hour h
  generalize hgen : HourIs exY exV 1000 1200 = his at *
  clear hgen
  simp only [yeastCells, VatV.cells, exV, wortV] at hho hma
  have e1 : exY.ts.length = 2 := rfl
  have e2 : exY.rs.length = 3 := rfl
  have e3 : exY.p1 = 640 := rfl
  have e4 : exY.p2 = 650 := rfl
  have e5 : exY.g1 = 480 := rfl
  have e6 : exY.g2 = 490 := rfl
  have e7 : exY.h1 = 600 := rfl
  have e8 : exY.h2 = 600 := rfl
  rw [e1, e2, e3, e4, e5, e6, e7, e8] at hho
  clear e1 e2 e3 e4 e5 e6 e7 e8
  go_enter Try.func18, Try.ntmps18
  go_wp2_with fail
  refine (hsm.out _).mono ?_
  rintro e W1 ⟨a, b, rfl, hat, hB⟩
  clear hsm
  go_upto_region 2 with fail
  refine wp_world (fun W => Below w.heap.size w W ∧ Blk W W1.heap.size 36 #[.slice (some ⟨a, 0, none⟩) 2 2, .slice (some ⟨b, 0, none⟩) 3 3, .int .i64 640, .int .i64 650, .int .i64 480, .int .i64 490, .int .i64 600, .int .i64 600] ∧ Blk W (W1.heap.size + 1) 38 #[.int .i64 1000000, .int .i64 1000000, .int .i64 0, .int .i64 0, .int .i64 0, .int .i64 0, .int .i64 0, .int .i64 0, .int .i64 0, .int .i64 0, .int .i64 25000, .int .i64 25000, .int .i64 40000000] ∧ Hid (YeastAt W (some ⟨a, 0, none⟩) (some ⟨b, 0, none⟩) exY))
    ⟨(hB.alloc hB.size _).alloc (by have := hB.size; simp; omega) _, (Blk.new _ _ _).alloc _, blk_at (by simp), Lib.hid (hat.out.later (((Below.refl _ _).alloc (Nat.le_refl _) _).alloc (by simp) _))⟩ ?_
  clear hB hat
  generalize W1.heap.size = g1
  rintro W2 ⟨hB, b0, b1, hat⟩
  obtain ⟨x0, x1, x2, x3, x4, x5, x6, x7⟩ := b0.facts8
  obtain ⟨v0, v1, v2, v3, v4, v5, v6, v7, v8, v9, v10, v11, v12⟩ := b1.facts13
  go_wp2_with fail
  refine (hho.out _ _ _ hat).mono ?_
  rintro e W3 ⟨r, rfl, hr, hb⟩
  replace hr := hex.out r hr
  subst hr
  simp only [VatV.cells]
  replace hB := hB.trans (hb.mono hB.size)
  clear hb b0 b1 hat hho hex x0 x1 x2 x3 x4 x5 x6 x7 v0 v1 v2 v3 v4 v5 v6 v7 v8 v9 v10 v11 v12
  go_upto_region 3 with fail
  refine wp_world (fun W => Below w.heap.size w W ∧ Blk W W3.heap.size 38 #[.int .i64 900000, .int .i64 950000, .int .i64 50000, .int .i64 100000, .int .i64 32000, .int .i64 65000, .int .i64 24000, .int .i64 49000, .int .i64 24000, .int .i64 49000, .int .i64 24550, .int .i64 25500, .int .i64 40000000]) ⟨hB.alloc hB.size _, Blk.new _ _ _⟩ ?_
  clear hB
  generalize W3.heap.size = g3
  rintro W4 ⟨hB, b3⟩
  go_wp2_with fail
  refine (hma.out _).mono ?_
  rintro e W5 ⟨rfl, hb⟩
  replace b3 := b3.below hb b3.lt
  replace hB := hB.trans (hb.mono hB.size)
  clear hb hma
  go_upto_region 4 with fail
  refine wp_world (fun W => Below w.heap.size w W ∧ Blk W g3 38 #[.int .i64 900000, .int .i64 950000, .int .i64 50000, .int .i64 100000, .int .i64 32000, .int .i64 65000, .int .i64 24000, .int .i64 49000, .int .i64 24000, .int .i64 49000, .int .i64 24550, .int .i64 25500, .int .i64 40000000] ∧ Blk W W5.heap.size 27 #[.int .i64 490, .int .i64 563, .int .i64 2800, .int .i64 3000]) ⟨(hB.alloc hB.size _).alloc (by have := hB.size; simp; omega) _, (b3.alloc _).alloc _, (Blk.new _ _ _).alloc _⟩ ?_
  clear hB b3
  generalize W5.heap.size = g5
  rintro W6 ⟨hB, b3, b5⟩
  go_wp2_with fail
  refine (hve.out _).mono ?_
  rintro e W7 ⟨n, k, rfl, hr, hb⟩
  obtain ⟨rfl, rfl⟩ := ex_vent hr
  replace b3 := b3.below hb b3.lt
  replace b5 := b5.below hb b5.lt
  replace hB := hB.trans (hb.mono hB.size)
  clear hb hve hr
  obtain ⟨v0, v1, v2, v3, v4, v5, v6, v7, v8, v9, v10, v11, v12⟩ := b3.facts13
  obtain ⟨x0, x1, x2, x3, _, _, _, _⟩ := b5.facts4
  go_wp2
  go_ret
  exact ⟨rfl, hB⟩
end Go.Proofs.Ytjcadgklamhohaa
