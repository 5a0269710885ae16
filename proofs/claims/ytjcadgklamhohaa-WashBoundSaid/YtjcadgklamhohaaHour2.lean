/- validWash, Hour. -/
import Derived.Test.YtjcadgklamhohaaHour
namespace Go.Proofs.Ytjcadgklamhohaa
open Go.RowKit Go.Sort
attribute [local go_sem] Oper.calm Oper.calmAt Oper.calmUpon

def WashOk (y : YeastV) (v : VatV) (l : List (Int × Int)) : Prop := YeastOk y ∧ VatOk v ∧ AllIn 0 150000 l
/-- a vat and an error -/
def VatErr (p : VatV × Int → Prop) (w : World) (e : Ending) (w' : World) : Prop := ∃ r : VatV × Int, e = .returned (.tuple #[.agg r.1.cells, .int .i64 r.2]) ∧ p r ∧ Below w.heap.size w w'
def HourIs (y : YeastV) (v : VatV) (d1 d2 : Int) (r : VatV × Int) : Prop := (¬ WashOk y v [(d1, d2)] ∧ r = (VatV.zero, 1)) ∨ (WashOk y v [(d1, d2)] ∧ r = laterR y v d1 d2)
theorem HourIs.uniq {y : YeastV} {v : VatV} {d1 d2 : Int} {r r' : VatV × Int} (h : HourIs y v d1 d2 r) (h' : HourIs y v d1 d2 r') : r' = r := by
  rcases h with ⟨h1, h2⟩ | ⟨h1, h2⟩ <;> rcases h' with ⟨g1, g2⟩ | ⟨g1, g2⟩ <;> first | contradiction | (rw [h2, g2])
theorem allIn_one {lo hi d1 d2 : Int} : AllIn lo hi [(d1, d2)] ↔ SpIn lo hi d1 d2 := by
  constructor
  · intro h; exact h 0 (by simp)
  · intro h i hi
    match i, hi with
    | 0, _ => exact h
    | i + 1, hi => simp at hi

set_option maxHeartbeats 4000000 in
set_option maxRecDepth 100000 in
theorem validWash_any (y : YeastV) (A : Option Addr) (ca : Nat) (B : Option Addr) (cb : Nat) (v : VatV) (D : Option Addr) (cd : Nat) (l : List (Int × Int)) (w : World) (hy : Hid (YeastAt w A B y)) (hl : Hid (SpansAt w D l)) (hlen : l.length ≤ 140737488355328) :
    Calls Try.prog 57 #[.agg (yeastCells A ca B cb y), .agg v.cells, .slice D l.length cd] w (SomeBool (WashOk y v l) w) := by
  have h1 := Lib.hid fun W (hb : Below w.heap.size w W) => validYeast_any y A ca B cb W (Lib.hid (hy.out.later hb))
  have h2 := Lib.hid fun W => validVat_any v W
  have h3 := Lib.hid fun W (hb : Below w.heap.size w W) => all_any 0 150000 D cd l W (Lib.hid (hl.out.later hb)) hlen
  have h4 := Lib.hid coolings_any
  have hyes := Lib.hid fun (k1 : YeastOk y) (k2 : VatOk v) (k3 : AllIn 0 150000 l) W (hB : Below w.heap.size w W) => SomeBool.yes (p := WashOk y v l) ⟨k1, k2, k3⟩ hB
  have hno := Lib.hid fun (k : ¬ WashOk y v l) W (hB : Below w.heap.size w W) => SomeBool.no k hB
  have hn1 := Lib.hid fun (k : ¬ YeastOk y) => hno.out fun h => k h.1
  have hn2 := Lib.hid fun (k : ¬ VatOk v) => hno.out fun h => k h.2.1
  have hn3 := Lib.hid fun (k : ¬ AllIn 0 150000 l) => hno.out fun h => k h.2.2
  clear hno hy hl
  obtain ⟨s1, s2, e1, e2, p1, p2, g1, g2, o1, o2, t1, t2, c⟩ := v
  simp only [VatV.cells, yeastCells] at *
  go_enter Try.func57, Try.ntmps57
  go_upto_region 1 with fail
  refine wp_world (fun W => Below w.heap.size w W ∧ Blk W w.heap.size 36 #[.slice A y.ts.length ca, .slice B y.rs.length cb, .int .i64 y.p1, .int .i64 y.p2, .int .i64 y.g1, .int .i64 y.g2, .int .i64 y.h1, .int .i64 y.h2] ∧ Blk W (w.heap.size + 1) 38 #[.int .i64 s1, .int .i64 s2, .int .i64 e1, .int .i64 e2, .int .i64 p1, .int .i64 p2, .int .i64 g1, .int .i64 g2, .int .i64 o1, .int .i64 o2, .int .i64 t1, .int .i64 t2, .int .i64 c])
    ⟨((Below.refl _ _).alloc (Nat.le_refl _) _).alloc (by simp) _, (Blk.new _ _ _).alloc _, blk_at (by simp)⟩ ?_
  rintro W0 ⟨hB, b0, b1⟩
  obtain ⟨x0, x1, x2, x3, x4, x5, x6, x7⟩ := b0.facts8
  go_wp2_with fail
  refine (h1.out _ hB).mono ?_
  rintro e W1 ⟨r, rfl, hr, hb⟩
  replace b1 := b1.below hb b1.lt
  replace hB := hB.trans (hb.mono hB.size)
  clear hb b0 h1 x0 x1 x2 x3 x4 x5 x6 x7
  obtain ⟨v0, v1, v2, v3, v4, v5, v6, v7, v8, v9, v10, v11, v12⟩ := b1.facts13
  cases r with
  | false =>
    replace hn1 := Lib.hid (hn1.out (fun h => Bool.noConfusion (hr.2 h)))
    clear hr hyes hn2 hn3
    go_wp2_with fail
    go_ret
    exact hn1.out _ hB
  | true =>
    replace hyes := Lib.hid (hyes.out (hr.1 rfl))
    clear hr hn1
    go_wp2_with fail
    refine (h2.out _).mono ?_
    rintro e W2 ⟨r, rfl, hr, hb⟩
    replace hB := hB.trans (hb.mono hB.size)
    clear hb b1 h2 v0 v1 v2 v3 v4 v5 v6 v7 v8 v9 v10 v11 v12
    cases r with
    | false =>
      replace hn2 := Lib.hid (hn2.out (fun h => Bool.noConfusion (hr.2 h)))
      clear hr hyes hn3
      go_wp2_with fail
      go_ret
      exact hn2.out _ hB
    | true =>
      replace hyes := Lib.hid (hyes.out (hr.1 rfl))
      clear hr hn2
      go_wp2_with fail
      refine (h4.out _).mono ?_
      rintro e W3 ⟨rfl, hb⟩
      replace hB := hB.trans (hb.mono hB.size)
      clear hb h4
      go_wp2_with fail
      refine (h3.out _ hB).mono ?_
      rintro e W4 ⟨r, rfl, hr, hb⟩
      replace hB := hB.trans (hb.mono hB.size)
      clear hb h3
      cases r with
      | false =>
        replace hn3 := Lib.hid (hn3.out (fun h => Bool.noConfusion (hr.2 h)))
        clear hr hyes
        go_wp2_with fail
        go_ret
        exact hn3.out _ hB
      | true =>
        replace hyes := Lib.hid (hyes.out (hr.1 rfl))
        clear hr hn3
        go_wp2_with fail
        go_ret
        exact hyes.out _ hB

set_option maxHeartbeats 4000000 in
set_option maxRecDepth 100000 in
theorem Hour_any (y : YeastV) (A : Option Addr) (ca : Nat) (B : Option Addr) (cb : Nat) (v : VatV) (d1 d2 : Int) (w : World) (hy : Hid (YeastAt w A B y)) (hcb : y.rs.length ≤ cb) :
    Calls Try.prog 20 #[.agg (yeastCells A ca B cb y), .agg v.cells, .agg #[.int .i64 d1, .int .i64 d2]] w (VatErr (HourIs y v d1 d2) w) := by
  have h1 := Lib.hid fun W b (hb : Below w.heap.size w W) (h : Blk W b 23 #[.int .i64 d1, .int .i64 d2]) => validWash_any y A ca B cb v (some ⟨b, 0, none⟩) 1 [(d1, d2)] W (Lib.hid (hy.out.later hb)) (Lib.hid fun _ => ⟨b, 0, rfl, h.lt, fun i hi => match i, hi with
    | 0, _ => ⟨h.cell 0, h.cell 1⟩
    | i + 1, hi => absurd hi (by simp)⟩) (by simp)
  have h2 := Lib.hid fun W (hb : Below w.heap.size w W) (h : WashOk y v [(d1, d2)]) => hourLater_any y A ca B cb v d1 d2 W (Lib.hid (hy.out.later hb)) hcb h.1 h.2.1 (allIn_one.1 h.2.2)
  have hno := Lib.hid fun (h : ¬ WashOk y v [(d1, d2)]) W (hB : Below w.heap.size w W) => (show VatErr (HourIs y v d1 d2) w (.returned (.tuple #[.agg VatV.zero.cells, .int .i64 1])) W from ⟨(VatV.zero, 1), rfl, .inl ⟨h, rfl⟩, hB⟩)
  have hyes := Lib.hid fun (h : WashOk y v [(d1, d2)]) W (hB : Below w.heap.size w W) => (show VatErr (HourIs y v d1 d2) w (.returned (.tuple #[.agg (laterR y v d1 d2).1.cells, .int .i64 (laterR y v d1 d2).2])) W from ⟨_, rfl, .inr ⟨h, rfl⟩, hB⟩)
  have h1len : [(d1, d2)].length = 1 := rfl
  rw [h1len] at h1
  clear hy h1len
  generalize laterR y v d1 d2 = lr at *
  generalize WashOk y v [(d1, d2)] = ok at *
  generalize HourIs y v d1 d2 = hi at *
  obtain ⟨⟨qs1, qs2, qe1, qe2, qp1, qp2, qg1, qg2, qo1, qo2, qt1, qt2, qc⟩, lk⟩ := lr
  obtain ⟨s1, s2, e1, e2, p1, p2, g1, g2, o1, o2, t1, t2, c⟩ := v
  simp only [VatV.cells, yeastCells, VatV.zero] at *
  go_enter Try.func20, Try.ntmps20
  go_wp2_with fail
  refine calls_world (fun W => Below w.heap.size w W ∧ Blk W w.heap.size 36 #[.slice A y.ts.length ca, .slice B y.rs.length cb, .int .i64 y.p1, .int .i64 y.p2, .int .i64 y.g1, .int .i64 y.g2, .int .i64 y.h1, .int .i64 y.h2] ∧ Blk W (w.heap.size + 1) 38 #[.int .i64 s1, .int .i64 s2, .int .i64 e1, .int .i64 e2, .int .i64 p1, .int .i64 p2, .int .i64 g1, .int .i64 g2, .int .i64 o1, .int .i64 o2, .int .i64 t1, .int .i64 t2, .int .i64 c] ∧ Blk W (w.heap.size + 1 + 1) 23 #[.int .i64 d1, .int .i64 d2] ∧ Blk W (w.heap.size + 1 + 1 + 1) 38 #[.int .i64 0, .int .i64 0, .int .i64 0, .int .i64 0, .int .i64 0, .int .i64 0, .int .i64 0, .int .i64 0, .int .i64 0, .int .i64 0, .int .i64 0, .int .i64 0, .int .i64 0] ∧ Blk W (w.heap.size + 1 + 1 + 1 + 1) 23 #[.int .i64 d1, .int .i64 d2])
    ⟨(((((Below.refl _ _).alloc (Nat.le_refl _) _).alloc (by simp) _).alloc (by simp; omega) _).alloc (by simp; omega) _).alloc (by simp; omega) _, ((((Blk.new _ _ _).alloc _).alloc _).alloc _).alloc _, (((blk_at (by simp)).alloc _).alloc _).alloc _, ((blk_at (by simp)).alloc _).alloc _, (blk_at (by simp)).alloc _, blk_at (by simp)⟩ ?_
  rintro W0 ⟨hB, b0, b1, b2, b3, b4⟩
  refine (h1.out _ _ hB b4).mono ?_
  rintro e W1 ⟨r, rfl, hr, hb⟩
  replace b0 := b0.below hb b0.lt
  replace b1 := b1.below hb b1.lt
  replace b2 := b2.below hb b2.lt
  replace b3 := b3.below hb b3.lt
  replace hB := hB.trans (hb.mono hB.size)
  clear hb b4 h1
  obtain ⟨x0, x1, x2, x3, x4, x5, x6, x7⟩ := b0.facts8
  obtain ⟨v0, v1, v2, v3, v4, v5, v6, v7, v8, v9, v10, v11, v12⟩ := b1.facts13
  obtain ⟨k0, k1, _, _⟩ := b2.facts2
  obtain ⟨z0, z1, z2, z3, z4, z5, z6, z7, z8, z9, z10, z11, z12⟩ := b3.facts13
  obtain ⟨f0, f1, f2, f3, f4, f5, f6, f7, f8, f9, f10, f11, f12⟩ := b3.frozen13
  cases r with
  | false =>
    replace hno := Lib.hid (hno.out (fun h => Bool.noConfusion (hr.2 h)))
    clear hr hyes h2
    go_wp2_with fail
    refine ret_world (fun W => Below w.heap.size w W ∧ Blk W (w.heap.size + 1 + 1 + 1) 38 #[.int .i64 0, .int .i64 0, .int .i64 0, .int .i64 0, .int .i64 0, .int .i64 0, .int .i64 0, .int .i64 0, .int .i64 0, .int .i64 0, .int .i64 0, .int .i64 0, .int .i64 0]) ⟨below13 hB (by omega), b3.sets13⟩ ?_
    clear hB b0 b1 b2 b3 x0 x1 x2 x3 x4 x5 x6 x7 v0 v1 v2 v3 v4 v5 v6 v7 v8 v9 v10 v11 v12 k0 k1 z0 z1 z2 z3 z4 z5 z6 z7 z8 z9 z10 z11 z12 f0 f1 f2 f3 f4 f5 f6 f7 f8 f9 f10 f11 f12
    rintro W ⟨hB, b3⟩
    obtain ⟨z0, z1, z2, z3, z4, z5, z6, z7, z8, z9, z10, z11, z12⟩ := b3.facts13
    exact bodyPost_ret (v := .tuple #[.agg #[.int .i64 0, .int .i64 0, .int .i64 0, .int .i64 0, .int .i64 0, .int .i64 0, .int .i64 0, .int .i64 0, .int .i64 0, .int .i64 0, .int .i64 0, .int .i64 0, .int .i64 0], .int .i64 1]) (by simp [results, Try.results20, go_sem, z0, z1, z2, z3, z4, z5, z6, z7, z8, z9, z10, z11, z12]) rfl (hno.out _ hB)
  | true =>
    have hok := hr.1 rfl
    replace hyes := Lib.hid (hyes.out hok)
    replace h2 := Lib.hid (fun W hb => h2.out W hb hok)
    clear hr hno hok
    go_wp2_with fail
    refine (h2.out _ hB).mono ?_
    rintro e W2 ⟨rfl, hb⟩
    replace b3 := b3.below hb b3.lt
    replace hB := hB.trans (hb.mono hB.size)
    clear hb b0 b1 b2 h2 x0 x1 x2 x3 x4 x5 x6 x7 v0 v1 v2 v3 v4 v5 v6 v7 v8 v9 v10 v11 v12 k0 k1 z0 z1 z2 z3 z4 z5 z6 z7 z8 z9 z10 z11 z12 f0 f1 f2 f3 f4 f5 f6 f7 f8 f9 f10 f11 f12
    obtain ⟨z0, z1, z2, z3, z4, z5, z6, z7, z8, z9, z10, z11, z12⟩ := b3.facts13
    obtain ⟨f0, f1, f2, f3, f4, f5, f6, f7, f8, f9, f10, f11, f12⟩ := b3.frozen13
    go_wp2_with fail
    refine ret_world (fun W => Below w.heap.size w W ∧ Blk W (w.heap.size + 1 + 1 + 1) 38 #[.int .i64 qs1, .int .i64 qs2, .int .i64 qe1, .int .i64 qe2, .int .i64 qp1, .int .i64 qp2, .int .i64 qg1, .int .i64 qg2, .int .i64 qo1, .int .i64 qo2, .int .i64 qt1, .int .i64 qt2, .int .i64 qc]) ⟨below13 hB (by omega), b3.sets13⟩ ?_
    clear hB b3 z0 z1 z2 z3 z4 z5 z6 z7 z8 z9 z10 z11 z12 f0 f1 f2 f3 f4 f5 f6 f7 f8 f9 f10 f11 f12
    rintro W ⟨hB, b3⟩
    obtain ⟨z0, z1, z2, z3, z4, z5, z6, z7, z8, z9, z10, z11, z12⟩ := b3.facts13
    exact bodyPost_ret (v := .tuple #[.agg #[.int .i64 qs1, .int .i64 qs2, .int .i64 qe1, .int .i64 qe2, .int .i64 qp1, .int .i64 qp2, .int .i64 qg1, .int .i64 qg2, .int .i64 qo1, .int .i64 qo2, .int .i64 qt1, .int .i64 qt2, .int .i64 qc], .int .i64 lk]) (by simp [results, Try.results20, go_sem, z0, z1, z2, z3, z4, z5, z6, z7, z8, z9, z10, z11, z12]) rfl (hyes.out _ hB)
end Go.Proofs.Ytjcadgklamhohaa
