/- awake: the results that the document fixes, in any memory. -/
import Derived.Test.YtdadpfgcjffclaaPlay
import Derived.Test.YtdadpfgcjffclaaParts
import Derived.Test.YtdadpfgcjffclaaHarm
namespace Go.Proofs.Ytdadpfgcjffclaa
open Go.RowKit Go.Sort
attribute [local go_sem] Oper.calm Oper.calmAt Oper.calmUpon

def exSteps : List StepV := [⟨0, 700, 720⟩, ⟨1, 500, 800⟩, ⟨3, 30, 40⟩, ⟨2, 450, 500⟩, ⟨4, 30, 40⟩, ⟨5, 930, 940⟩]
def exCells : Array Value := #[.int .i64 0, .int .i64 700, .int .i64 720, .int .i64 1, .int .i64 500, .int .i64 800, .int .i64 3, .int .i64 30, .int .i64 40, .int .i64 2, .int .i64 450, .int .i64 500, .int .i64 4, .int .i64 30, .int .i64 40, .int .i64 5, .int .i64 930, .int .i64 940]
theorem steps_blk {w : World} {b : Nat} {t : TypeId} (h : Blk w b t exCells) : StepsAt w (some ⟨b, 0, none⟩) exSteps := fun _ => by
  refine ⟨b, 0, rfl, h.lt, fun i s hs => ?_⟩
  match i with
  | 0 => cases hs; exact ⟨h.cell 0, h.cell 1, h.cell 2⟩
  | 1 => cases hs; exact ⟨h.cell 3, h.cell 4, h.cell 5⟩
  | 2 => cases hs; exact ⟨h.cell 6, h.cell 7, h.cell 8⟩
  | 3 => cases hs; exact ⟨h.cell 9, h.cell 10, h.cell 11⟩
  | 4 => cases hs; exact ⟨h.cell 12, h.cell 13, h.cell 14⟩
  | 5 => cases hs; exact ⟨h.cell 15, h.cell 16, h.cell 17⟩
  | i + 6 => cases hs

set_option maxHeartbeats 2000000 in
set_option maxRecDepth 100000 in
theorem sample_any (w : World) : Calls Try.prog 33 #[] w fun e w' => ∃ b, e = .returned (.tuple #[.agg #[.int .i64 1000, .int .i64 1010, .int .i64 150, .int .i64 160, .int .i64 0, .int .i64 0], .slice (some ⟨b, 0, none⟩) 6 6]) ∧ Hid (StepsAt w' (some ⟨b, 0, none⟩) exSteps) ∧ Below w.heap.size w w' := by
  go_enter Try.func33, Try.ntmps33
  go_wp2
  refine ret_world (fun W => Below w.heap.size w W ∧ Blk W w.heap.size 25 #[.int .i64 1000, .int .i64 1010, .int .i64 150, .int .i64 160, .int .i64 0, .int .i64 0] ∧ Blk W (w.heap.size + 1) 54 exCells) ?_ ?_
  · refine ⟨((Below.refl _ _).alloc (Nat.le_refl _) _).alloc (by simp) _, ?_, ?_⟩
    · exact (Blk.new _ _ _).alloc _
    · exact blk_at (by simp)
  rintro W ⟨hB, b0, b1⟩
  obtain ⟨x0, x1, x2, x3, x4, x5⟩ := b0.facts6
  refine bodyPost_ret (v := .tuple #[.agg #[.int .i64 1000, .int .i64 1010, .int .i64 150, .int .i64 160, .int .i64 0, .int .i64 0], .slice (some ⟨w.heap.size + 1, 0, none⟩) 6 6]) (by simp [results, Try.results33, go_sem, x0, x1, x2, x3, x4, x5]) rfl ⟨_, rfl, Lib.hid (steps_blk b1), hB⟩

theorem ex_play : playV (playR 1000 1010 150 160 0 0 exSteps) = .tuple #[.agg #[.int .i64 883, .int .i64 898, .int .i64 42, .int .i64 47, .int .i64 28, .int .i64 38], .agg #[.int .i64 700, .int .i64 720, .int .i64 50, .int .i64 80, .int .i64 30, .int .i64 40, .int .i64 803, .int .i64 838], .int .i64 6, .int .i64 0] := by kernel_rfl
theorem ex_moist {a b k : Int} (h : MoistIs 883 898 42 47 28 38 a b k) : a = 446 ∧ b = 506 ∧ k = 0 :=
  MoistIs.uniq (.inr ⟨by decide, .inr ⟨by decide, by decide, by decide, rfl⟩⟩) h
theorem ex_phen {a b k : Int} (h : PhenIs 883 898 42 47 28 38 a b k) : a = 31 ∧ b = 44 ∧ k = 0 :=
  PhenIs.uniq (.inr ⟨by decide, .inr ⟨by decide, by decide, by decide, rfl⟩⟩) h
theorem ex_harm {n k : Int} (h : HarmIs 0 100 1000 900 n k) : n = 22 ∧ k = 0 :=
  HarmIs.uniq (.inr ⟨by decide, .inr ⟨rfl, by decide, by decide +kernel, by decide +kernel⟩⟩) h

set_option maxHeartbeats 8000000 in
set_option maxRecDepth 100000 in
theorem awake_any (w : World) : Calls Try.prog 11 #[] w fun e w' => e = .returned (.bool true) ∧ Below w.heap.size w w' := by
  have hsm := Lib.hid sample_any
  go_enter Try.func11, Try.ntmps11
  go_wp2_with fail
  refine (hsm.out _).mono ?_
  rintro e W1 ⟨b, rfl, hst, hB⟩
  clear hsm
  go_upto_region 2 with fail
  refine wp_world (fun W => Below w.heap.size w W ∧ Blk W W1.heap.size 25 #[.int .i64 1000, .int .i64 1010, .int .i64 150, .int .i64 160, .int .i64 0, .int .i64 0] ∧ Hid (StepsAt W (some ⟨b, 0, none⟩) exSteps)) ⟨hB.alloc hB.size _, Blk.new _ _ _, Lib.hid (hst.out.below ((Below.refl _ _).alloc (Nat.le_refl _) _))⟩ ?_
  clear hB hst
  generalize W1.heap.size = g1
  rintro W2 ⟨hB, b1, hst⟩
  obtain ⟨x0, x1, x2, x3, x4, x5⟩ := b1.facts6
  have hpl := Lib.hid (Play_any 1000 1010 150 160 0 0 (some ⟨b, 0, none⟩) 6 exSteps W2 hst (by decide))
  rw [ex_play] at hpl
  have hlen : exSteps.length = 6 := rfl
  rw [hlen] at hpl
  go_wp2_with fail
  refine hpl.out.mono ?_
  rintro e W3 ⟨rfl, hb⟩
  replace hB := hB.trans (hb.mono hB.size)
  clear hb hpl hst b1 x0 x1 x2 x3 x4 x5 hlen
  go_upto_region 3 with fail
  refine wp_world (fun W => Below w.heap.size w W ∧ Blk W W3.heap.size 25 #[.int .i64 883, .int .i64 898, .int .i64 42, .int .i64 47, .int .i64 28, .int .i64 38] ∧ Blk W (W3.heap.size + 1) 29 #[.int .i64 700, .int .i64 720, .int .i64 50, .int .i64 80, .int .i64 30, .int .i64 40, .int .i64 803, .int .i64 838]) ⟨(hB.alloc hB.size _).alloc (by have := hB.size; simp; omega) _, (Blk.new _ _ _).alloc _, blk_at (by simp)⟩ ?_
  clear hB
  generalize W3.heap.size = g3
  rintro W4 ⟨hB, b3, b4⟩
  obtain ⟨x0, x1, x2, x3, x4, x5⟩ := b3.facts6
  have hmo := Lib.hid (Moisture_any 883 898 42 47 28 38 W4)
  go_wp2_with fail
  refine hmo.out.mono ?_
  rintro e W5 ⟨a, b, k, rfl, hr, hb⟩
  obtain ⟨rfl, rfl, rfl⟩ := ex_moist hr
  replace b3 := b3.below hb b3.lt
  replace b4 := b4.below hb b4.lt
  replace hB := hB.trans (hb.mono hB.size)
  clear hb hmo hr x0 x1 x2 x3 x4 x5
  go_upto_region 4 with fail
  refine wp_world (fun W => Below w.heap.size w W ∧ Blk W g3 25 #[.int .i64 883, .int .i64 898, .int .i64 42, .int .i64 47, .int .i64 28, .int .i64 38] ∧ Blk W (g3 + 1) 29 #[.int .i64 700, .int .i64 720, .int .i64 50, .int .i64 80, .int .i64 30, .int .i64 40, .int .i64 803, .int .i64 838] ∧ Blk W W5.heap.size 23 #[.int .i64 446, .int .i64 506]) ⟨hB.alloc hB.size _, b3.alloc _, b4.alloc _, Blk.new _ _ _⟩ ?_
  clear hB b3 b4
  generalize W5.heap.size = g5
  rintro W6 ⟨hB, b3, b4, b5⟩
  obtain ⟨x0, x1, x2, x3, x4, x5⟩ := b3.facts6
  have hph := Lib.hid (Phenols_any 883 898 42 47 28 38 W6)
  go_wp2_with fail
  refine hph.out.mono ?_
  rintro e W7 ⟨a, b, k, rfl, hr, hb⟩
  obtain ⟨rfl, rfl, rfl⟩ := ex_phen hr
  replace b3 := b3.below hb b3.lt
  replace b4 := b4.below hb b4.lt
  replace b5 := b5.below hb b5.lt
  replace hB := hB.trans (hb.mono hB.size)
  clear hb hph hr x0 x1 x2 x3 x4 x5
  go_upto_region 5 with fail
  refine wp_world (fun W => Below w.heap.size w W ∧ Blk W g3 25 #[.int .i64 883, .int .i64 898, .int .i64 42, .int .i64 47, .int .i64 28, .int .i64 38] ∧ Blk W (g3 + 1) 29 #[.int .i64 700, .int .i64 720, .int .i64 50, .int .i64 80, .int .i64 30, .int .i64 40, .int .i64 803, .int .i64 838] ∧ Blk W g5 23 #[.int .i64 446, .int .i64 506] ∧ Blk W W7.heap.size 23 #[.int .i64 31, .int .i64 44]) ⟨hB.alloc hB.size _, b3.alloc _, b4.alloc _, b5.alloc _, Blk.new _ _ _⟩ ?_
  clear hB b3 b4 b5
  generalize W7.heap.size = g7
  rintro W8 ⟨hB, b3, b4, b5, b7⟩
  have hha := Lib.hid (Harm_any 0 100 1000 900 W8)
  go_wp2_with fail
  refine hha.out.mono ?_
  rintro e W9 ⟨n, k, rfl, hr, hb⟩
  obtain ⟨rfl, rfl⟩ := ex_harm hr
  replace b3 := b3.below hb b3.lt
  replace b4 := b4.below hb b4.lt
  replace b5 := b5.below hb b5.lt
  replace b7 := b7.below hb b7.lt
  replace hB := hB.trans (hb.mono hB.size)
  clear hb hha hr
  go_upto_region 8 with fail
  refine wp_world (fun W => Below w.heap.size w W ∧ Blk W g3 25 #[.int .i64 883, .int .i64 898, .int .i64 42, .int .i64 47, .int .i64 28, .int .i64 38] ∧ Blk W (g3 + 1) 29 #[.int .i64 700, .int .i64 720, .int .i64 50, .int .i64 80, .int .i64 30, .int .i64 40, .int .i64 803, .int .i64 838] ∧ Blk W g5 23 #[.int .i64 446, .int .i64 506] ∧ Blk W g7 23 #[.int .i64 31, .int .i64 44] ∧
      Blk W W9.heap.size 25 #[.int .i64 883, .int .i64 898, .int .i64 42, .int .i64 47, .int .i64 28, .int .i64 38] ∧ Blk W (W9.heap.size + 1) 29 #[.int .i64 700, .int .i64 720, .int .i64 50, .int .i64 80, .int .i64 30, .int .i64 40, .int .i64 803, .int .i64 838])
    ⟨(hB.alloc hB.size _).alloc (by have := hB.size; simp; omega) _, (b3.alloc _).alloc _, (b4.alloc _).alloc _, (b5.alloc _).alloc _, (b7.alloc _).alloc _, (Blk.new _ _ _).alloc _, blk_at (by simp)⟩ ?_
  clear hB b3 b4 b5 b7
  generalize W9.heap.size = g9
  rintro W10 ⟨hB, b3, b4, b5, b7, b9, b10⟩
  obtain ⟨x0, x1, x2, x3, x4, x5⟩ := b3.facts6
  obtain ⟨y0, y1, y2, y3, y4, y5, y6, y7⟩ := b4.facts8
  obtain ⟨z0, z1, _, _⟩ := b5.facts2
  obtain ⟨u0, u1, _, _⟩ := b7.facts2
  obtain ⟨v0, v1, v2, v3, v4, v5⟩ := b9.facts6
  obtain ⟨t0, t1, t2, t3, t4, t5, t6, t7⟩ := b10.facts8
  go_wp2
  go_ret
  exact ⟨rfl, hB⟩
end Go.Proofs.Ytdadpfgcjffclaa
