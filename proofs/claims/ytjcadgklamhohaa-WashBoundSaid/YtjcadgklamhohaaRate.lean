/- rangeOf, rate: at which rate sugar is eaten. -/
import Derived.Test.YtjcadgklamhohaaYeast
namespace Go.Proofs.Ytjcadgklamhohaa
open Go.RowKit Go.Sort
attribute [local go_sem] Oper.calm Oper.calmAt Oper.calmUpon

set_option maxHeartbeats 4000000 in
set_option maxRecDepth 100000 in
theorem rangeOf_any (y : YeastV) (A : Option Addr) (ca : Nat) (B : Option Addr) (cb : Nat) (t : Int) (w : World) (hy : Hid (YeastAt w A B y)) (hl : y.ts.length ≤ 16) :
    Calls Try.prog 85 #[.agg (yeastCells A ca B cb y), .int .i64 t] w fun e w' => e = .returned (.int .i64 (rangeR y t : Nat)) ∧ Below w.heap.size w w' := by
  have hfin := Lib.hid fun (i : Nat) (h : RangeIs y t i) W (hB : Below w.heap.size w W) => (show Ending.returned (.int .i64 (i : Nat)) = .returned (.int .i64 (rangeR y t : Nat)) ∧ Below w.heap.size w W from ⟨by rw [(rangeR_is y t).uniq h], hB⟩)
  have hyw := Lib.hid fun W (hb : Below w.heap.size w W) => hy.out.later hb
  clear hy
  simp only [yeastCells]
  have hta : ∀ i : Nat, y.ts[i]?.getD 0 = tempAt y i := fun _ => rfl
  replace hta := Lib.hid hta
  generalize rangeR y t = rr at *
  go_enter Try.func85, Try.ntmps85
  go_upto_region 2 with fail
  refine wp_world (fun W => Below w.heap.size w W ∧ Blk W w.heap.size 36 #[.slice A y.ts.length ca, .slice B y.rs.length cb, .int .i64 y.p1, .int .i64 y.p2, .int .i64 y.g1, .int .i64 y.g2, .int .i64 y.h1, .int .i64 y.h2]) ⟨(Below.refl _ _).alloc (Nat.le_refl _) _, Blk.new _ _ _⟩ ?_
  rintro W0 ⟨hB, b0⟩
  have x0 : W0.cell? ⟨w.heap.size, 0, none⟩ = some (.slice A y.ts.length ca) := b0.cell 0
  clear b0
  go_loopw [5] (fun i wr => ∃ k : Nat, k ≤ y.ts.length ∧ i = .int .i64 k ∧ wr = W0 ∧ Hid (∀ j, j < k → tempAt y j ≤ t)) (fun i _ => y.ts.length - (intOf i).toNat)
  case atStart => exact ⟨0, Nat.zero_le _, rfl, rfl, Lib.hid fun j h => by omega⟩
  case round =>
    obtain ⟨k, hk, rfl, rfl, hd⟩ := hrel
    by_cases hlt : k < y.ts.length
    · obtain ⟨b, off, rfl, hb, hc⟩ := (hyw.out _ hB).ts (by omega)
      have z0 := hc k hlt
      rw [hta.out] at z0
      clear hc hb
      have hlt' : (k : Int) < y.ts.length := by omega
      by_cases h4 : tempAt y k ≤ t
      · have h4' : decide (tempAt y k ≤ t) = true := by simpa using h4
        replace hd := Lib.hid (show ∀ j, j < k + 1 → tempAt y j ≤ t from fun j hj => by
          by_cases e : j = k
          · subst e; exact h4
          · exact hd.out j (by omega))
        clear h4 hfin
        go_wp2_with fail
        go_roundw
        case rel => exact ⟨k + 1, by omega, by go_num, trivial, hd⟩
        case measure => simp [intOf]; omega
      · have h4' : decide (tempAt y k ≤ t) = false := by simpa using h4
        replace hfin := Lib.hid (hfin.out k ⟨hk, hd.out, fun _ => by omega⟩)
        clear h4 hd
        go_wp2_with fail
        go_ret
        exact hfin.out _ hB
    · have hk' : k = y.ts.length := by omega
      subst hk'
      replace hfin := Lib.hid (hfin.out _ ⟨hk, hd.out, fun h => absurd h hlt⟩)
      clear hd
      go_wp2_with fail
      go_ret
      exact hfin.out _ hB

/-- the least Lo and the greatest Hi of so many ranges from i on -/
def spanN (y : YeastV) (i : Nat) : Nat → Int × Int
  | 0 => rateAt y i
  | n + 1 => (min (spanN y i n).1 (rateAt y (i + n)).1, max (spanN y i n).2 (rateAt y (i + n)).2)
theorem spanN_is (y : YeastV) (i : Nat) : ∀ n, 0 < n →
    (∀ d, d < n → (spanN y i n).1 ≤ (rateAt y (i + d)).1 ∧ (rateAt y (i + d)).2 ≤ (spanN y i n).2) ∧ (∃ d, d < n ∧ (rateAt y (i + d)).1 = (spanN y i n).1) ∧ ∃ d, d < n ∧ (rateAt y (i + d)).2 = (spanN y i n).2
  | 0, h => by omega
  | 1, _ => by
    simp only [spanN, Nat.add_zero]
    refine ⟨fun d hd => ?_, ⟨0, by omega, by simp⟩, ⟨0, by omega, by simp⟩⟩
    have : d = 0 := by omega
    subst this
    simp
  | n + 2, _ => by
    obtain ⟨h1, ⟨a, h2, h3⟩, ⟨b, h4, h5⟩⟩ := spanN_is y i (n + 1) (by omega)
    have e : spanN y i (n + 2) = (min (spanN y i (n + 1)).1 (rateAt y (i + (n + 1))).1, max (spanN y i (n + 1)).2 (rateAt y (i + (n + 1))).2) := rfl
    rw [e]
    simp only
    refine ⟨fun d hd => ?_, ?_, ?_⟩
    · by_cases hn : d = n + 1
      · subst hn; omega
      · have := h1 d (by omega); omega
    · by_cases hm : (spanN y i (n + 1)).1 ≤ (rateAt y (i + (n + 1))).1
      · exact ⟨a, by omega, by omega⟩
      · exact ⟨n + 1, by omega, by omega⟩
    · by_cases hm : (rateAt y (i + (n + 1))).2 ≤ (spanN y i (n + 1)).2
      · exact ⟨b, by omega, by omega⟩
      · exact ⟨n + 1, by omega, by omega⟩
theorem spanN_rate {y : YeastV} {t1 t2 : Int} (hy : YeastOk y) (ht : t1 ≤ t2) : spanN y (rangeR y t1) (rangeR y t2 + 1 - rangeR y t1) = rateR y t1 t2 := by
  have hi := rangeR_is y t1
  have hj := rangeR_is y t2
  have hle := range_le ht hi hj
  obtain ⟨h1, ⟨a, h2, h3⟩, ⟨b, h4, h5⟩⟩ := spanN_is y (rangeR y t1) (rangeR y t2 + 1 - rangeR y t1) (by omega)
  have tt := fun n => touches_iff (n := n) hy.temps hi hj
  have hR : RateIs y t1 t2 (spanN y (rangeR y t1) (rangeR y t2 + 1 - rangeR y t1)).1 (spanN y (rangeR y t1) (rangeR y t2 + 1 - rangeR y t1)).2 := by
    refine ⟨⟨⟨_, (tt _).2 ⟨by omega, by omega⟩, h3⟩, fun i hti => ?_⟩, ⟨_, (tt _).2 ⟨by omega, by omega⟩, h5⟩, fun i hti => ?_⟩
    · have := (tt _).1 hti
      have k := (h1 (i - rangeR y t1) (by omega)).1
      rwa [show rangeR y t1 + (i - rangeR y t1) = i by omega] at k
    · have := (tt _).1 hti
      have k := (h1 (i - rangeR y t1) (by omega)).2
      rwa [show rangeR y t1 + (i - rangeR y t1) = i by omega] at k
  obtain ⟨e1, e2⟩ := (rateR_is hy ht).uniq hR
  exact Prod.ext e1 e2
theorem spanN_bd {y : YeastV} (hy : YeastOk y) (i : Nat) : ∀ n, i + n ≤ y.rs.length → i < y.rs.length → SpIn 0 1000 (spanN y i n).1 (spanN y i n).2
  | 0, _, h => hy.parts i h
  | n + 1, h, h' => by
    have h1 := spanN_bd hy i n (by omega) h'
    have h2 := hy.parts (i + n) (by omega)
    obtain ⟨a1, a2, a3⟩ := h1
    obtain ⟨b1, b2, b3⟩ := h2
    simp only [spanN]
    refine ⟨by omega, by omega, by omega⟩

set_option maxHeartbeats 4000000 in
set_option maxRecDepth 100000 in
theorem rate_any (y : YeastV) (A : Option Addr) (ca : Nat) (B : Option Addr) (cb : Nat) (t1 t2 : Int) (w : World) (hy : Hid (YeastAt w A B y)) (hcb : y.rs.length ≤ cb) (hok : YeastOk y) (ht : t1 ≤ t2) :
    Calls Try.prog 78 #[.agg (yeastCells A ca B cb y), .agg #[.int .i64 t1, .int .i64 t2]] w fun e w' => e = .returned (.agg #[.int .i64 (rateR y t1 t2).1, .int .i64 (rateR y t1 t2).2]) ∧ Below w.heap.size w w' := by
  have hi := rangeR_is y t1
  have hj := rangeR_is y t2
  have hle := range_le ht hi hj
  have hf : rangeR y t1 < y.rs.length := by have := hi.1; have := hok.rates; omega
  have hg : rangeR y t2 < y.rs.length := by have := hj.1; have := hok.rates; omega
  have hr1 := Lib.hid fun W (hb : Below w.heap.size w W) => rangeOf_any y A ca B cb t1 W (Lib.hid (hy.out.later hb)) hok.len
  have hr2 := Lib.hid fun W (hb : Below w.heap.size w W) => rangeOf_any y A ca B cb t2 W (Lib.hid (hy.out.later hb)) hok.len
  have hfin := Lib.hid (spanN_rate hok ht)
  have hbd := Lib.hid fun n (h : rangeR y t1 + n ≤ y.rs.length) => spanN_bd hok (rangeR y t1) n h hf
  have hlen := hok.len
  have hl17 : y.rs.length ≤ 17 := by have := hok.rates; omega

  obtain ⟨b, off, rfl, hb, hc⟩ := hy.out.rs (by omega)
  have hcc := Lib.hid fun W (hb' : Below w.heap.size w W) i (hi : i < y.rs.length) => (show W.cell? ⟨b, off + i * 2, none⟩ = some (.int .i64 (rateAt y i).1) ∧ W.cell? ⟨b, off + i * 2 + 1, none⟩ = some (.int .i64 (rateAt y i).2) from
    ⟨(hb'.cell (p := ⟨b, _, none⟩) hb).trans (hc i hi).1, (hb'.cell (p := ⟨b, _, none⟩) hb).trans (hc i hi).2⟩)
  clear hc hb hy hi hj ht hok
  simp only [yeastCells] at hr1 hr2 ⊢
  generalize rateR y t1 t2 = rr at *
  generalize rangeR y t1 = f at *
  generalize rangeR y t2 = g at *
  have c0 := hcc.out w (Below.refl _ _) f hf
  go_enter Try.func78, Try.ntmps78
  go_upto_region 1 with fail
  refine wp_world (fun W => Below w.heap.size w W ∧ Blk W w.heap.size 36 #[.slice A y.ts.length ca, .slice (some ⟨b, off, none⟩) y.rs.length cb, .int .i64 y.p1, .int .i64 y.p2, .int .i64 y.g1, .int .i64 y.g2, .int .i64 y.h1, .int .i64 y.h2] ∧ Blk W (w.heap.size + 1) 23 #[.int .i64 t1, .int .i64 t2] ∧ Blk W (w.heap.size + 1 + 1) 83 #[.int .i64 0, .int .i64 0])
    ⟨(((Below.refl _ _).alloc (Nat.le_refl _) _).alloc (by simp) _).alloc (by simp; omega) _, ((Blk.new _ _ _).alloc _).alloc _, (blk_at (by simp)).alloc _, blk_at (by simp)⟩ ?_
  rintro W0 ⟨hB0, b0, b1, b2⟩
  obtain ⟨x0, x1, x2, x3, x4, x5, x6, x7⟩ := b0.facts8
  obtain ⟨y0, y1, _, _⟩ := b1.facts2
  have x0' := fun d os => cell_regrown x0 d os
  have x1' := fun d os => cell_regrown x1 d os
  have x2' := fun d os => cell_regrown x2 d os
  have x3' := fun d os => cell_regrown x3 d os
  have x4' := fun d os => cell_regrown x4 d os
  have x5' := fun d os => cell_regrown x5 d os
  have x6' := fun d os => cell_regrown x6 d os
  have x7' := fun d os => cell_regrown x7 d os
  have y0' := fun d os => cell_regrown y0 d os
  have y1' := fun d os => cell_regrown y1 d os
  refine wp_region_quiet_below (by kernel_rfl) (by kernel_rfl) ?_
  repeat (quiet_step (fail))
  quiet_step (first | (go_at_call 85; exact quiet_call (fun W1 h => hr1.out W1 (hB0.trans (h.mono hB0.size)))))
  repeat (quiet_step (fail))
  quiet_step (first | (go_at_call 85; exact quiet_call (fun W1 h => hr2.out W1 (hB0.trans (h.mono hB0.size)))))
  repeat (quiet_step (fail))
  refine wpQuiet_nil ?_
  intro _ hw'
  obtain ⟨⟨dq, osq⟩, hw''⟩ := hw'
  subst hw''
  have hb := below_regrown W0 dq osq
  replace b0 := b0.below hb b0.lt
  replace b2 := b2.below hb b2.lt
  have hB := hB0.trans (hb.mono hB0.size)
  clear hb hB0 x0 x1 x2 x3 x4 x5 x6 x7 x0' x1' x2' x3' x4' x5' x6' x7' y0 y1 y0' y1' b1 hr1 hr2
  generalize grow (redrawn W0 dq) osq = W1 at *
  obtain ⟨x0, x1, x2, x3, x4, x5, x6, x7⟩ := b0.facts8
  obtain ⟨c0, c1⟩ := hcc.out _ hB f hf
  have hf' : (f : Int) < y.rs.length := by omega
  go_upto_region 3 with fail
  refine wp_world (fun W => Below w.heap.size w W ∧ Blk W w.heap.size 36 #[.slice A y.ts.length ca, .slice (some ⟨b, off, none⟩) y.rs.length cb, .int .i64 y.p1, .int .i64 y.p2, .int .i64 y.g1, .int .i64 y.g2, .int .i64 y.h1, .int .i64 y.h2] ∧ Blk W (w.heap.size + 1 + 1) 83 #[.int .i64 0, .int .i64 0] ∧ Blk W W1.heap.size 83 #[.int .i64 (rateAt y f).1, .int .i64 (rateAt y f).2] ∧ w.heap.size + 1 + 1 < W1.heap.size)
    ⟨hB.alloc hB.size _, b0.alloc _, b2.alloc _, Blk.new _ _ _, b2.lt⟩ ?_
  clear hB b0 b2 x0 x1 x2 x3 x4 x5 x6 x7 c0 c1
  generalize W1.heap.size = g7 at *
  rintro W2 ⟨hB, b0, b2, b7, n7⟩
  obtain ⟨x0, x1, x2, x3, x4, x5, x6, x7⟩ := b0.facts8
  have i1 : IntKind.i64.wrap ((g : Int) + 1) = (g : Int) + 1 := IntWalk.i64_in _ (by omega)
  have i2 : ((g : Int) + 1).toNat = g + 1 := by omega
  have i3 : ¬ cb = f := by omega
  have i4 : (g : Int) + 1 ≤ cb := by omega
  have i5 : (f : Int) ≤ (g : Int) + 1 := by omega
  go_upto_region 4 with fail
  clear i1 i2 i3 i4 i5 x0 x1 x2 x3 x4 x5 x6 x7 b0 c0 hf'
  obtain ⟨n, hn⟩ : ∃ n, g + 1 - f = n := ⟨_, rfl⟩
  rw [hn] at hfin ⊢
  have hn1 : f + n ≤ y.rs.length := by omega
  have hn2 : n ≤ 17 := by omega
  clear hn hle hg hlen hcb
  go_loopw [30] (fun i wr => ∃ k : Nat, k ≤ n ∧ i = .int .i64 k ∧ Below w.heap.size w wr ∧ Blk wr (w.heap.size + 1 + 1) 83 #[.int .i64 0, .int .i64 0] ∧ Blk wr g7 83 #[.int .i64 (spanN y f k).1, .int .i64 (spanN y f k).2]) (fun i _ => n - (intOf i).toNat)
  case atStart => exact ⟨0, Nat.zero_le _, rfl, hB, b2, b7⟩
  case round =>
    clear hB b2 b7
    obtain ⟨k, hk, rfl, hB, b2, b7⟩ := hrel
    by_cases hlt : k < n
    · have hlt' : (k : Int) < n := by omega
      obtain ⟨c0, c1⟩ := hcc.out _ hB (f + k) (by omega)
      rw [show off + (f + k) * 2 = off + f * 2 + k * 2 by omega] at c0 c1
      obtain ⟨m1, m2, m3⟩ := hbd.out k (by omega)
      obtain ⟨q1, q2, q3⟩ := hbd.out (k + 1) (by omega)
      have hs1 : (spanN y f (k + 1)).1 = min (spanN y f k).1 (rateAt y (f + k)).1 := rfl
      have hs2 : (spanN y f (k + 1)).2 = max (spanN y f k).2 (rateAt y (f + k)).2 := rfl
      generalize hu : (spanN y f (k + 1)).1 = u at *
      generalize hv : (spanN y f (k + 1)).2 = v at *
      generalize (spanN y f k).1 = p1 at *
      generalize (spanN y f k).2 = p2 at *
      generalize (rateAt y (f + k)).1 = o1 at *
      generalize (rateAt y (f + k)).2 = o2 at *
      have hm1 : (if o1 < p1 then o1 else p1) = u := by rw [hs1]; split <;> omega
      have hm2 : (if p2 < o2 then o2 else p2) = v := by rw [hs2]; split <;> omega
      replace hu := Lib.hid hu
      replace hv := Lib.hid hv
      clear hs1 hs2
      have hg9 := b7.lt
      go_upto_region 6 with fail
      refine wp_world (fun W => Below w.heap.size w W ∧ Blk W (w.heap.size + 1 + 1) 83 #[.int .i64 0, .int .i64 0] ∧ Blk W g7 83 #[.int .i64 p1, .int .i64 p2] ∧ Blk W wr.heap.size 23 #[.int .i64 o1, .int .i64 o2]) ⟨hB.alloc hB.size _, b2.alloc _, b7.alloc _, Blk.new _ _ _⟩ ?_
      clear hB b2 b7 c0 c1
      generalize wr.heap.size = g9 at *
      rintro W3 ⟨hB, b2, b7, b9⟩
      obtain ⟨y0, y1, _, _⟩ := b7.facts2
      obtain ⟨z0, z1, _, _⟩ := b9.facts2
      go_wp2_with fail
      go_roundw
      case rel =>
        refine ⟨k + 1, by omega, by go_num, belowp hB (by omega), b2.farp (by omega), ?_⟩
        rw [hu.out, hv.out]
        exact b7.setp
      case measure => simp [intOf]; omega
    · have hk' : k = n := by omega
      subst hk'
      rw [hfin.out] at b7
      clear hfin hcc hbd
      obtain ⟨y0, y1, _, _⟩ := b7.facts2
      obtain ⟨z0, z1, _, _⟩ := b2.facts2
      go_wp2_with fail
      refine ret_world (fun W => Below w.heap.size w W ∧ Blk W (w.heap.size + 1 + 1) 83 #[.int .i64 rr.1, .int .i64 rr.2]) ⟨belowp hB (by omega), b2.setp⟩ ?_
      clear hB b2 b7 y0 y1 z0 z1
      rintro W ⟨hB, b2⟩
      obtain ⟨z0, z1, _, _⟩ := b2.facts2
      exact bodyPost_ret (v := .agg #[.int .i64 rr.1, .int .i64 rr.2]) (by simp [results, Try.results78, go_sem, z0, z1]) rfl ⟨rfl, hB⟩
end Go.Proofs.Ytjcadgklamhohaa
