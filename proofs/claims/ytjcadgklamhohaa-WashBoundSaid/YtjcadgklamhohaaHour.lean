/- hourLater: the vat behind an hour; validWash, Hour. -/
import Derived.Test.YtjcadgklamhohaaRate
import Derived.Test.YtjcadgklamhohaaStored
namespace Go.Proofs.Ytjcadgklamhohaa
open Go.RowKit Go.Sort
attribute [local go_sem] Oper.calm Oper.calmAt Oper.calmUpon

/-- the vat behind an hour, or none -/
def laterR (y : YeastV) (v : VatV) (c1 c2 : Int) : VatV × Int := if SpansOk (hourR y v c1 c2) then (hourR y v c1 c2, 0) else (VatV.zero, 12)

set_option maxHeartbeats 16000000 in
set_option maxRecDepth 100000 in
theorem hourLater_any (y : YeastV) (A : Option Addr) (ca : Nat) (B : Option Addr) (cb : Nat) (v : VatV) (d1 d2 : Int) (w : World) (hy : Hid (YeastAt w A B y)) (hcb : y.rs.length ≤ cb) (hok : YeastOk y) (hv : VatOk v) (hd : SpIn 0 150000 d1 d2) :
    Calls Try.prog 58 #[.agg (yeastCells A ca B cb y), .agg v.cells, .agg #[.int .i64 d1, .int .i64 d2]] w fun e w' => e = .returned (.tuple #[.agg (laterR y v d1 d2).1.cells, .int .i64 (laterR y v d1 d2).2]) ∧ Below w.heap.size w w' := by
  have hfin := Lib.hid (show ∀ r : VatV × Int, laterR y v d1 d2 = r → ∀ W, Below w.heap.size w W → (Ending.returned (.tuple #[.agg r.1.cells, .int .i64 r.2]) = .returned (.tuple #[.agg (laterR y v d1 d2).1.cells, .int .i64 (laterR y v d1 d2).2]) ∧ Below w.heap.size w W) from fun r h W hB => ⟨by rw [h], hB⟩)
  have hla := Lib.hid (show laterR y v d1 d2 = if SpansOk (hourR y v d1 d2) then (hourR y v d1 d2, 0) else (VatV.zero, 12) from rfl)
  have hsf := Lib.hid fun W => spansFit_any (hourR y v d1 d2) W
  have hrt := Lib.hid fun W (hb : Below w.heap.size w W) => rate_any y A ca B cb v.t1 v.t2 W (Lib.hid (hy.out.later hb)) hcb hok hv.1.2.2.2.2.2.2.1
  have hrb := (rateR_is hok hv.1.2.2.2.2.2.2.1).bd hok
  have hhr : hourR y v d1 d2 = hourV y v d1 d2 (rateR y v.t1 v.t2).1 (rateR y v.t1 v.t2).2 := rfl
  generalize laterR y v d1 d2 = lr at *
  generalize hourR y v d1 d2 = hr at *
  generalize (rateR y v.t1 v.t2).1 = r1 at *
  generalize (rateR y v.t1 v.t2).2 = r2 at *
  have hbd := hourBd (y := y) hv.1 hrb
  have hyp := hok.p
  have hyg := hok.g
  have hyh := hok.h
  clear hok hcb
  obtain ⟨hso, hc1, hc2⟩ := hv
  obtain ⟨s1, s2, e1, e2, p1, p2, g1, g2, o1, o2, t1, t2, c⟩ := v
  obtain ⟨⟨sa, sb, sc⟩, ⟨ea, eb, ec⟩, ⟨pa, pb, pc⟩, ⟨ga, gb, gc⟩, ⟨oa, ob, oc⟩, ⟨ta, tb, tc⟩⟩ := hso
  obtain ⟨pa', pb', pc'⟩ := hyp
  obtain ⟨ga', gb', gc'⟩ := hyg
  obtain ⟨ha', hb', hc'⟩ := hyh
  obtain ⟨da, db, dc⟩ := hd
  obtain ⟨ra, rb, rc⟩ := hrb
  obtain ⟨⟨a1l, a1u⟩, ⟨a2l, a2u⟩, ⟨q1l, q1u⟩, ⟨q2l, q2u⟩, ⟨b1l, b1u⟩, ⟨b2l, b2u⟩⟩ := hbd
  simp only [hourV] at *
  generalize hm1 : s1 * r1 = m1 at *
  generalize hm2 : s2 * r2 = m2 at *
  generalize hn1 : m1 / 1000 = n1 at *
  generalize hn2 : upQ m2 1000 = n2 at *
  have k2 := Lib.hid fun W => times_any s1 s2 r1 r2 m1 m2 W (Lib.hid hm1) (Lib.hid hm2) (by omega) (by omega)
  have k3 := Lib.hid fun W => by_any m1 m2 1000 n1 n2 W (by omega) (by omega) (by omega) (by omega) (by omega) (Lib.hid hn1) (Lib.hid hn2)
  clear hm1 hm2 hn1 hn2

  obtain ⟨gx, gy⟩ : (0 ≤ n1 * y.g1 ∧ n1 * y.g1 ≤ 1073741824000) ∧ (0 ≤ n2 * y.g2 ∧ n2 * y.g2 ≤ 1073741824000) := ⟨(thou_bd ⟨q1l, q1u⟩ ⟨ga', by omega⟩).1, (thou_bd ⟨q2l, q2u⟩ ⟨by omega, gc'⟩).1⟩
  obtain ⟨gu, gv⟩ : (0 ≤ n1 * y.g1 / 1000 ∧ n1 * y.g1 / 1000 ≤ 1073741824) ∧ (0 ≤ upQ (n2 * y.g2) 1000 ∧ upQ (n2 * y.g2) 1000 ≤ 1073741824) := ⟨(thou_bd ⟨q1l, q1u⟩ ⟨ga', by omega⟩).2.1, (thou_bd ⟨q2l, q2u⟩ ⟨by omega, gc'⟩).2.2⟩
  generalize hgm1 : n1 * y.g1 = gm1 at *
  generalize hgm2 : n2 * y.g2 = gm2 at *
  generalize hgn1 : gm1 / 1000 = gn1 at *
  generalize hgn2 : upQ gm2 1000 = gn2 at *
  have kg1 := Lib.hid fun W => times_any n1 n2 y.g1 y.g2 gm1 gm2 W (Lib.hid hgm1) (Lib.hid hgm2) (by omega) (by omega)
  have kg2 := Lib.hid fun W => by_any gm1 gm2 1000 gn1 gn2 W (by omega) (by omega) (by omega) (by omega) (by omega) (Lib.hid hgn1) (Lib.hid hgn2)
  clear hgm1 hgm2 hgn1 hgn2 gx gy
  obtain ⟨px, py⟩ : (0 ≤ n1 * y.p1 ∧ n1 * y.p1 ≤ 1073741824000) ∧ (0 ≤ n2 * y.p2 ∧ n2 * y.p2 ≤ 1073741824000) := ⟨(thou_bd ⟨q1l, q1u⟩ ⟨pa', by omega⟩).1, (thou_bd ⟨q2l, q2u⟩ ⟨by omega, pc'⟩).1⟩
  obtain ⟨pu, pv⟩ : (0 ≤ n1 * y.p1 / 1000 ∧ n1 * y.p1 / 1000 ≤ 1073741824) ∧ (0 ≤ upQ (n2 * y.p2) 1000 ∧ upQ (n2 * y.p2) 1000 ≤ 1073741824) := ⟨(thou_bd ⟨q1l, q1u⟩ ⟨pa', by omega⟩).2.1, (thou_bd ⟨q2l, q2u⟩ ⟨by omega, pc'⟩).2.2⟩
  generalize hpm1 : n1 * y.p1 = pm1 at *
  generalize hpm2 : n2 * y.p2 = pm2 at *
  generalize hpn1 : pm1 / 1000 = pn1 at *
  generalize hpn2 : upQ pm2 1000 = pn2 at *
  have kp1 := Lib.hid fun W => times_any n1 n2 y.p1 y.p2 pm1 pm2 W (Lib.hid hpm1) (Lib.hid hpm2) (by omega) (by omega)
  have kp2 := Lib.hid fun W => by_any pm1 pm2 1000 pn1 pn2 W (by omega) (by omega) (by omega) (by omega) (by omega) (Lib.hid hpn1) (Lib.hid hpn2)
  clear hpm1 hpm2 hpn1 hpn2 px py
  have heat1 := heat_bd (a := n1) (h := y.h1) (c := c) ⟨q1l, q1u⟩ ⟨ha', by omega⟩ hc1
  have heat2 := heat_bd (a := n2) (h := y.h2) (c := c) ⟨q2l, q2u⟩ ⟨by omega, hc'⟩ hc1
  generalize hhm1 : n1 * y.h1 = hm1 at *
  generalize hhm2 : n2 * y.h2 = hm2 at *
  generalize hjm1 : hm1 * 1000 = jm1 at *
  generalize hjm2 : hm2 * 1000 = jm2 at *
  generalize hjn1 : jm1 / c = jn1 at *
  generalize hjn2 : upQ jm2 c = jn2 at *
  have kh1 := Lib.hid fun W => times_any n1 n2 y.h1 y.h2 hm1 hm2 W (Lib.hid hhm1) (Lib.hid hhm2) (by omega) (by omega)
  have kh2 := Lib.hid fun W => times_any hm1 hm2 1000 1000 jm1 jm2 W (Lib.hid hjm1) (Lib.hid hjm2) (by omega) (by omega)
  have kh3 := Lib.hid fun W => by_any jm1 jm2 c jn1 jn2 W (by omega) (by omega) (by omega) (by omega) (by omega) (Lib.hid hjn1) (Lib.hid hjn2)
  clear hhm1 hhm2 hjm1 hjm2 hjn1 hjn2
  generalize hl1 : 1000 - r2 = l1 at *
  generalize hl2 : 1000 - r1 = l2 at *
  have kl := Lib.hid fun W => less_any 1000 1000 r1 r2 l1 l2 W (Lib.hid hl1) (Lib.hid hl2) (by omega) (by omega)
  clear hl1 hl2
  generalize hx1 : s1 * l1 = x1 at *
  generalize hx2 : s2 * l2 = x2 at *
  generalize hS1 : x1 / 1000 = S1 at *
  generalize hS2 : upQ x2 1000 = S2 at *
  have kx := Lib.hid fun W => times_any s1 s2 l1 l2 x1 x2 W (Lib.hid hx1) (Lib.hid hx2) (by omega) (by omega)
  have kS := Lib.hid fun W => by_any x1 x2 1000 S1 S2 W (by omega) (by omega) (by omega) (by omega) (by omega) (Lib.hid hS1) (Lib.hid hS2)
  clear hx1 hx2 hS1 hS2
  have kE := Lib.hid fun W => plus_any e1 e2 n1 n2 (e1 + n1) (e2 + n2) W (Lib.hid rfl) (Lib.hid rfl) (by omega) (by omega)
  have kP := Lib.hid fun W => plus_any p1 p2 pn1 pn2 (p1 + pn1) (p2 + pn2) W (Lib.hid rfl) (Lib.hid rfl) (by omega) (by omega)
  have kG := Lib.hid fun W => plus_any g1 g2 gn1 gn2 (g1 + gn1) (g2 + gn2) W (Lib.hid rfl) (Lib.hid rfl) (by omega) (by omega)
  have kU := Lib.hid fun W => plus_any t1 t2 jn1 jn2 (t1 + jn1) (t2 + jn2) W (Lib.hid rfl) (Lib.hid rfl) (by omega) (by omega)
  have kT := Lib.hid fun W => less_any (t1 + jn1) (t2 + jn2) d1 d2 (t1 + jn1 - d2) (t2 + jn2 - d1) W (Lib.hid rfl) (Lib.hid rfl) (by omega) (by omega)
  have hex := Lib.hid fun W => exactly_any 1000 W
  clear sa sb sc ea eb ec pa pb pc ga gb gc oa ob oc ta tb tc pa' pb' pc' ga' gb' gc' ha' hb' hc' da db dc ra rb rc a1l a1u a2l a2u q1l q1u q2l q2u b1l b1u b2l b2u gu gv pu pv heat1 heat2 hc1 hc2 hy
  generalize hE1 : e1 + n1 = E1 at *
  generalize hE2 : e2 + n2 = E2 at *
  generalize hP1 : p1 + pn1 = P1 at *
  generalize hP2 : p2 + pn2 = P2 at *
  generalize hG1 : g1 + gn1 = G1 at *
  generalize hG2 : g2 + gn2 = G2 at *
  generalize hU1 : t1 + jn1 = U1 at *
  generalize hU2 : t2 + jn2 = U2 at *
  generalize hT1 : U1 - d2 = T1 at *
  generalize hT2 : U2 - d1 = T2 at *
  clear hE1 hE2 hP1 hP2 hG1 hG2 hU1 hU2 hT1 hT2
  subst hhr
  simp only [VatV.cells] at hsf ⊢
  simp only [yeastCells] at hrt ⊢
  have hyes := Lib.hid fun (h : SpansOk ⟨S1, S2, E1, E2, P1, P2, G1, G2, gn1, gn2, T1, T2, c⟩) => hfin.out _ (by rw [hla.out, if_pos h])
  have hno := Lib.hid fun (h : ¬ SpansOk ⟨S1, S2, E1, E2, P1, P2, G1, G2, gn1, gn2, T1, T2, c⟩) => hfin.out _ (by rw [hla.out, if_neg h])
  clear hfin hla
  simp only [VatV.cells, VatV.zero] at hyes hno
  generalize SpansOk ⟨S1, S2, E1, E2, P1, P2, G1, G2, gn1, gn2, T1, T2, c⟩ = ok at *
  go_enter Try.func58, Try.ntmps58
  go_upto_region 1 with fail
  refine wp_world (fun W => Below w.heap.size w W ∧ Blk W w.heap.size 36 #[.slice A y.ts.length ca, .slice B y.rs.length cb, .int .i64 y.p1, .int .i64 y.p2, .int .i64 y.g1, .int .i64 y.g2, .int .i64 y.h1, .int .i64 y.h2] ∧ Blk W (w.heap.size + 1) 38 #[.int .i64 s1, .int .i64 s2, .int .i64 e1, .int .i64 e2, .int .i64 p1, .int .i64 p2, .int .i64 g1, .int .i64 g2, .int .i64 o1, .int .i64 o2, .int .i64 t1, .int .i64 t2, .int .i64 c] ∧ Blk W (w.heap.size + 1 + 1) 23 #[.int .i64 d1, .int .i64 d2] ∧ Blk W (w.heap.size + 1 + 1 + 1) 38 #[.int .i64 0, .int .i64 0, .int .i64 0, .int .i64 0, .int .i64 0, .int .i64 0, .int .i64 0, .int .i64 0, .int .i64 0, .int .i64 0, .int .i64 0, .int .i64 0, .int .i64 0])
    ⟨((((Below.refl _ _).alloc (Nat.le_refl _) _).alloc (by simp) _).alloc (by simp; omega) _).alloc (by simp; omega) _, (((Blk.new _ _ _).alloc _).alloc _).alloc _, ((blk_at (by simp)).alloc _).alloc _, (blk_at (by simp)).alloc _, blk_at (by simp)⟩ ?_
  rintro W0 ⟨hB, b0, b1, b2, b3⟩

  obtain ⟨x0, x1, x2, x3, x4, x5, x6, x7⟩ := b0.facts8
  obtain ⟨v0, v1, v2, v3, v4, v5, v6, v7, v8, v9, v10, v11, v12⟩ := b1.facts13
  have x0' := fun d os => cell_regrown x0 d os
  have x1' := fun d os => cell_regrown x1 d os
  have x2' := fun d os => cell_regrown x2 d os
  have x3' := fun d os => cell_regrown x3 d os
  have x4' := fun d os => cell_regrown x4 d os
  have x5' := fun d os => cell_regrown x5 d os
  have x6' := fun d os => cell_regrown x6 d os
  have x7' := fun d os => cell_regrown x7 d os
  have v0' := fun d os => cell_regrown v0 d os
  have v1' := fun d os => cell_regrown v1 d os
  have v10' := fun d os => cell_regrown v10 d os
  have v11' := fun d os => cell_regrown v11 d os
  refine wp_region_two_stored 6 8 9 18 83 83 #[.int .i64 0, .int .i64 0] #[.int .i64 0, .int .i64 0] #[.int .i64 r1, .int .i64 r2] (by kernel_rfl) (by kernel_rfl)
    ⟨_, rfl, rfl, rfl, fun a w => by kernel_rfl⟩ ⟨_, rfl, rfl, rfl, fun a w => by kernel_rfl⟩ ⟨_, rfl, rfl, rfl, rfl, by kernel_rfl⟩ (by kernel_rfl) rfl (by simp [Value.oneCell']) (by decide) (by decide) (by decide) (by kernel_rfl) (by kernel_rfl) ?_
  simp only [List.take_succ_cons, List.take_zero, List.drop_succ_cons, List.drop_zero]
  repeat ((refine wpCalm_step (fun K hK => ?_)); go_simp; first | (refine hK _ ?_; clear hK K) | fail)
  (refine wpCalm_step (fun K hK => ?_)); go_simp; (apply Exists.intro; refine ⟨fun _ => ?_, hK _ ?_⟩; (first | (go_at_call 78; exact calm_call (fun W1 h => hrt.out W1 (hB.trans (h.mono hB.size))))); clear hK K)
  repeat ((refine wpCalm_step (fun K hK => ?_)); go_simp; first | (refine hK _ ?_; clear hK K) | fail)
  refine wpCalm_nil ?_
  refine ⟨⟨rfl, by simp⟩, ?_⟩
  intro W1 g8 g9 hb B8 B9 hg8 hg9 hne
  simp only [Act.put, List.setIfInBounds_toArray, List.set_cons_zero, List.set_cons_succ]
  have n3 := b3.lt
  replace b0 := b0.below hb b0.lt
  replace b1 := b1.below hb b1.lt
  replace b2 := b2.below hb b2.lt
  replace b3 := b3.below hb b3.lt
  replace hB := hB.trans (hb.mono hB.size)
  have h83 : w.heap.size + 1 + 1 + 1 < g8 := by omega
  have h93 : w.heap.size + 1 + 1 + 1 < g9 := by omega
  clear hb n3 hg8 hg9 hrt x0 x1 x2 x3 x4 x5 x6 x7 v0 v1 v2 v3 v4 v5 v6 v7 v8 v9 v10 v11 v12 x0' x1' x2' x3' x4' x5' x6' x7' v0' v1' v10' v11'
  obtain ⟨x0, x1, x2, x3⟩ := B8.facts2
  obtain ⟨y0, y1, y2, y3⟩ := B9.facts2
  go_upto_region 2 with fail
  refine wp_world (fun W => Below w.heap.size w W ∧ Blk W w.heap.size 36 #[.slice A y.ts.length ca, .slice B y.rs.length cb, .int .i64 y.p1, .int .i64 y.p2, .int .i64 y.g1, .int .i64 y.g2, .int .i64 y.h1, .int .i64 y.h2] ∧ Blk W (w.heap.size + 1) 38 #[.int .i64 s1, .int .i64 s2, .int .i64 e1, .int .i64 e2, .int .i64 p1, .int .i64 p2, .int .i64 g1, .int .i64 g2, .int .i64 o1, .int .i64 o2, .int .i64 t1, .int .i64 t2, .int .i64 c] ∧ Blk W (w.heap.size + 1 + 1) 23 #[.int .i64 d1, .int .i64 d2] ∧ Blk W (w.heap.size + 1 + 1 + 1) 38 #[.int .i64 0, .int .i64 0, .int .i64 0, .int .i64 0, .int .i64 0, .int .i64 0, .int .i64 0, .int .i64 0, .int .i64 0, .int .i64 0, .int .i64 0, .int .i64 0, .int .i64 0] ∧ Blk W g8 83 #[.int .i64 r1, .int .i64 r2] ∧ Blk W g9 83 #[.int .i64 s1, .int .i64 s2])
    ⟨belowp hB (by omega), b0.farp (by omega), b1.farp (by omega), b2.farp (by omega), b3.farp (by omega), B8.farp hne, B9.setp⟩ ?_
  clear hB b0 b1 b2 b3 B8 B9 x0 x1 x2 x3 y0 y1 y2 y3
  rintro W2 ⟨hB, b0, b1, b2, b3, b8, b9⟩

  obtain ⟨x0, x1, _, _⟩ := b8.facts2
  obtain ⟨y0, y1, _, _⟩ := b9.facts2
  go_wp2_with fail
  refine (k2.out _).mono ?_
  rintro e W3 ⟨rfl, hb⟩
  replace b0 := b0.below hb b0.lt
  replace b1 := b1.below hb b1.lt
  replace b2 := b2.below hb b2.lt
  replace b3 := b3.below hb b3.lt
  replace b8 := b8.below hb b8.lt
  replace b9 := b9.below hb b9.lt
  replace hB := hB.trans (hb.mono hB.size)
  clear hb x0 x1 y0 y1
  go_wp2_with fail
  refine (k3.out _).mono ?_
  rintro e W4 ⟨rfl, hb⟩
  replace b0 := b0.below hb b0.lt
  replace b1 := b1.below hb b1.lt
  replace b2 := b2.below hb b2.lt
  replace b3 := b3.below hb b3.lt
  replace b8 := b8.below hb b8.lt
  replace b9 := b9.below hb b9.lt
  replace hB := hB.trans (hb.mono hB.size)
  clear hb 
  go_upto_region 3 with fail
  refine wp_world (fun W => Below w.heap.size w W ∧ Blk W w.heap.size 36 #[.slice A y.ts.length ca, .slice B y.rs.length cb, .int .i64 y.p1, .int .i64 y.p2, .int .i64 y.g1, .int .i64 y.g2, .int .i64 y.h1, .int .i64 y.h2] ∧ Blk W (w.heap.size + 1) 38 #[.int .i64 s1, .int .i64 s2, .int .i64 e1, .int .i64 e2, .int .i64 p1, .int .i64 p2, .int .i64 g1, .int .i64 g2, .int .i64 o1, .int .i64 o2, .int .i64 t1, .int .i64 t2, .int .i64 c] ∧ Blk W (w.heap.size + 1 + 1) 23 #[.int .i64 d1, .int .i64 d2] ∧ Blk W (w.heap.size + 1 + 1 + 1) 38 #[.int .i64 0, .int .i64 0, .int .i64 0, .int .i64 0, .int .i64 0, .int .i64 0, .int .i64 0, .int .i64 0, .int .i64 0, .int .i64 0, .int .i64 0, .int .i64 0, .int .i64 0] ∧ Blk W g8 83 #[.int .i64 r1, .int .i64 r2] ∧ Blk W g9 83 #[.int .i64 s1, .int .i64 s2] ∧ Blk W W4.heap.size 83 #[.int .i64 n1, .int .i64 n2] ∧ (w.heap.size + 1 + 1 + 1 < W4.heap.size)) ⟨hB.alloc hB.size _, b0.alloc _, b1.alloc _, b2.alloc _, b3.alloc _, b8.alloc _, b9.alloc _, Blk.new _ _ _, b3.lt⟩ ?_
  clear hB b0 b1 b2 b3 b8 b9
  generalize W4.heap.size = g10 at *
  rintro W5 ⟨hB, b0, b1, b2, b3, b8, b9, b10, hlt_g10⟩
  clear k2 k3
  obtain ⟨x0, x1, _, _⟩ := b10.facts2
  obtain ⟨y0, y1, y2, y3, y4, y5, y6, y7⟩ := b0.facts8
  go_wp2_with fail
  refine (kg1.out _).mono ?_
  rintro e W6 ⟨rfl, hb⟩
  replace b0 := b0.below hb b0.lt
  replace b1 := b1.below hb b1.lt
  replace b2 := b2.below hb b2.lt
  replace b3 := b3.below hb b3.lt
  replace b8 := b8.below hb b8.lt
  replace b9 := b9.below hb b9.lt
  replace b10 := b10.below hb b10.lt
  replace hB := hB.trans (hb.mono hB.size)
  clear hb x0 x1 y0 y1 y2 y3 y4 y5 y6 y7
  go_wp2_with fail
  refine (kg2.out _).mono ?_
  rintro e W7 ⟨rfl, hb⟩
  replace b0 := b0.below hb b0.lt
  replace b1 := b1.below hb b1.lt
  replace b2 := b2.below hb b2.lt
  replace b3 := b3.below hb b3.lt
  replace b8 := b8.below hb b8.lt
  replace b9 := b9.below hb b9.lt
  replace b10 := b10.below hb b10.lt
  replace hB := hB.trans (hb.mono hB.size)
  clear hb 
  go_upto_region 4 with fail
  refine wp_world (fun W => Below w.heap.size w W ∧ Blk W w.heap.size 36 #[.slice A y.ts.length ca, .slice B y.rs.length cb, .int .i64 y.p1, .int .i64 y.p2, .int .i64 y.g1, .int .i64 y.g2, .int .i64 y.h1, .int .i64 y.h2] ∧ Blk W (w.heap.size + 1) 38 #[.int .i64 s1, .int .i64 s2, .int .i64 e1, .int .i64 e2, .int .i64 p1, .int .i64 p2, .int .i64 g1, .int .i64 g2, .int .i64 o1, .int .i64 o2, .int .i64 t1, .int .i64 t2, .int .i64 c] ∧ Blk W (w.heap.size + 1 + 1) 23 #[.int .i64 d1, .int .i64 d2] ∧ Blk W (w.heap.size + 1 + 1 + 1) 38 #[.int .i64 0, .int .i64 0, .int .i64 0, .int .i64 0, .int .i64 0, .int .i64 0, .int .i64 0, .int .i64 0, .int .i64 0, .int .i64 0, .int .i64 0, .int .i64 0, .int .i64 0] ∧ Blk W g8 83 #[.int .i64 r1, .int .i64 r2] ∧ Blk W g9 83 #[.int .i64 s1, .int .i64 s2] ∧ Blk W g10 83 #[.int .i64 n1, .int .i64 n2] ∧ Blk W W7.heap.size 83 #[.int .i64 gn1, .int .i64 gn2] ∧ (w.heap.size + 1 + 1 + 1 < W7.heap.size)) ⟨hB.alloc hB.size _, b0.alloc _, b1.alloc _, b2.alloc _, b3.alloc _, b8.alloc _, b9.alloc _, b10.alloc _, Blk.new _ _ _, b3.lt⟩ ?_
  clear hB b0 b1 b2 b3 b8 b9 b10
  generalize W7.heap.size = g11 at *
  rintro W8 ⟨hB, b0, b1, b2, b3, b8, b9, b10, b11, hlt_g11⟩
  clear kg1 kg2
  obtain ⟨x0, x1, _, _⟩ := b10.facts2
  obtain ⟨y0, y1, y2, y3, y4, y5, y6, y7⟩ := b0.facts8
  go_wp2_with fail
  refine (kp1.out _).mono ?_
  rintro e W9 ⟨rfl, hb⟩
  replace b0 := b0.below hb b0.lt
  replace b1 := b1.below hb b1.lt
  replace b2 := b2.below hb b2.lt
  replace b3 := b3.below hb b3.lt
  replace b8 := b8.below hb b8.lt
  replace b9 := b9.below hb b9.lt
  replace b10 := b10.below hb b10.lt
  replace b11 := b11.below hb b11.lt
  replace hB := hB.trans (hb.mono hB.size)
  clear hb x0 x1 y0 y1 y2 y3 y4 y5 y6 y7
  go_wp2_with fail
  refine (kp2.out _).mono ?_
  rintro e W10 ⟨rfl, hb⟩
  replace b0 := b0.below hb b0.lt
  replace b1 := b1.below hb b1.lt
  replace b2 := b2.below hb b2.lt
  replace b3 := b3.below hb b3.lt
  replace b8 := b8.below hb b8.lt
  replace b9 := b9.below hb b9.lt
  replace b10 := b10.below hb b10.lt
  replace b11 := b11.below hb b11.lt
  replace hB := hB.trans (hb.mono hB.size)
  clear hb 
  go_upto_region 5 with fail
  refine wp_world (fun W => Below w.heap.size w W ∧ Blk W w.heap.size 36 #[.slice A y.ts.length ca, .slice B y.rs.length cb, .int .i64 y.p1, .int .i64 y.p2, .int .i64 y.g1, .int .i64 y.g2, .int .i64 y.h1, .int .i64 y.h2] ∧ Blk W (w.heap.size + 1) 38 #[.int .i64 s1, .int .i64 s2, .int .i64 e1, .int .i64 e2, .int .i64 p1, .int .i64 p2, .int .i64 g1, .int .i64 g2, .int .i64 o1, .int .i64 o2, .int .i64 t1, .int .i64 t2, .int .i64 c] ∧ Blk W (w.heap.size + 1 + 1) 23 #[.int .i64 d1, .int .i64 d2] ∧ Blk W (w.heap.size + 1 + 1 + 1) 38 #[.int .i64 0, .int .i64 0, .int .i64 0, .int .i64 0, .int .i64 0, .int .i64 0, .int .i64 0, .int .i64 0, .int .i64 0, .int .i64 0, .int .i64 0, .int .i64 0, .int .i64 0] ∧ Blk W g8 83 #[.int .i64 r1, .int .i64 r2] ∧ Blk W g9 83 #[.int .i64 s1, .int .i64 s2] ∧ Blk W g10 83 #[.int .i64 n1, .int .i64 n2] ∧ Blk W g11 83 #[.int .i64 gn1, .int .i64 gn2] ∧ Blk W W10.heap.size 83 #[.int .i64 pn1, .int .i64 pn2] ∧ (w.heap.size + 1 + 1 + 1 < W10.heap.size)) ⟨hB.alloc hB.size _, b0.alloc _, b1.alloc _, b2.alloc _, b3.alloc _, b8.alloc _, b9.alloc _, b10.alloc _, b11.alloc _, Blk.new _ _ _, b3.lt⟩ ?_
  clear hB b0 b1 b2 b3 b8 b9 b10 b11
  generalize W10.heap.size = g12 at *
  rintro W11 ⟨hB, b0, b1, b2, b3, b8, b9, b10, b11, b12, hlt_g12⟩
  clear kp1 kp2
  obtain ⟨x0, x1, _, _⟩ := b10.facts2
  have x0' := fun d os => cell_regrown x0 d os
  have x1' := fun d os => cell_regrown x1 d os
  obtain ⟨y0, y1, y2, y3, y4, y5, y6, y7⟩ := b0.facts8
  have y6' := fun d os => cell_regrown y6 d os
  have y7' := fun d os => cell_regrown y7 d os
  obtain ⟨v0, v1, v2, v3, v4, v5, v6, v7, v8, v9, v10, v11, v12⟩ := b1.facts13
  have v12' := fun d os => cell_regrown v12 d os
  refine wp_region_one_below 9 13 83 #[.int .i64 0, .int .i64 0] (by kernel_rfl) (by kernel_rfl) ⟨_, rfl, rfl, rfl, fun a w => by kernel_rfl⟩ (by kernel_rfl) (by kernel_rfl) ?_
  simp only [List.take_succ_cons, List.take_zero, List.drop_succ_cons, List.drop_zero]
  repeat ((refine wpCalm_step (fun K hK => ?_)); go_simp; first | (refine hK _ ?_; clear hK K) | fail)
  (refine wpCalm_step (fun K hK => ?_)); go_simp; (apply Exists.intro; refine ⟨fun _ => ?_, hK _ ?_⟩; (first | (go_at_call 52; exact calm_call (fun W1 _ => kh1.out W1))); clear hK K)
  repeat ((refine wpCalm_step (fun K hK => ?_)); go_simp; first | (refine hK _ ?_; clear hK K) | fail)
  (refine wpCalm_step (fun K hK => ?_)); go_simp; (apply Exists.intro; refine ⟨fun _ => ?_, hK _ ?_⟩; (first | (go_at_call 51; exact calm_call (fun W1 _ => hex.out W1))); clear hK K)
  repeat ((refine wpCalm_step (fun K hK => ?_)); go_simp; first | (refine hK _ ?_; clear hK K) | fail)
  (refine wpCalm_step (fun K hK => ?_)); go_simp; (apply Exists.intro; refine ⟨fun _ => ?_, hK _ ?_⟩; (first | (go_at_call 52; exact calm_call (fun W1 _ => kh2.out W1))); clear hK K)
  repeat ((refine wpCalm_step (fun K hK => ?_)); go_simp; first | (refine hK _ ?_; clear hK K) | fail)
  (refine wpCalm_step (fun K hK => ?_)); go_simp; (apply Exists.intro; refine ⟨fun _ => ?_, hK _ ?_⟩; (first | (go_at_call 53; exact calm_call (fun W1 _ => kh3.out W1))); clear hK K)
  repeat ((refine wpCalm_step (fun K hK => ?_)); go_simp; first | (refine hK _ ?_; clear hK K) | fail)
  refine wpCalm_nil ?_
  intro W12 g13 hb b13 hg_g13
  simp only [Act.put, List.setIfInBounds_toArray, List.set_cons_zero, List.set_cons_succ]
  have hlt_g13 : w.heap.size + 1 + 1 + 1 < g13 := by have := b3.lt; omega
  have hne_b8 : g8 ≠ g13 := by have := b8.lt; omega
  have hne_b9 : g9 ≠ g13 := by have := b9.lt; omega
  have hne_b10 : g10 ≠ g13 := by have := b10.lt; omega
  have hne_b11 : g11 ≠ g13 := by have := b11.lt; omega
  have hne_b12 : g12 ≠ g13 := by have := b12.lt; omega
  replace b0 := b0.below hb b0.lt
  replace b1 := b1.below hb b1.lt
  replace b2 := b2.below hb b2.lt
  replace b3 := b3.below hb b3.lt
  replace b8 := b8.below hb b8.lt
  replace b9 := b9.below hb b9.lt
  replace b10 := b10.below hb b10.lt
  replace b11 := b11.below hb b11.lt
  replace b12 := b12.below hb b12.lt
  replace hB := hB.trans (hb.mono hB.size)
  clear hb hg_g13 x0 x1 y0 y1 y2 y3 y4 y5 y6 y7 v0 v1 v2 v3 v4 v5 v6 v7 v8 v9 v10 v11 v12 x0' x1' y6' y7' v12'
  obtain ⟨x0, x1, x2, x3⟩ := b13.facts2
  go_upto_region 6 with fail
  refine wp_world (fun W => Below w.heap.size w W ∧ Blk W w.heap.size 36 #[.slice A y.ts.length ca, .slice B y.rs.length cb, .int .i64 y.p1, .int .i64 y.p2, .int .i64 y.g1, .int .i64 y.g2, .int .i64 y.h1, .int .i64 y.h2] ∧ Blk W (w.heap.size + 1) 38 #[.int .i64 s1, .int .i64 s2, .int .i64 e1, .int .i64 e2, .int .i64 p1, .int .i64 p2, .int .i64 g1, .int .i64 g2, .int .i64 o1, .int .i64 o2, .int .i64 t1, .int .i64 t2, .int .i64 c] ∧ Blk W (w.heap.size + 1 + 1) 23 #[.int .i64 d1, .int .i64 d2] ∧ Blk W (w.heap.size + 1 + 1 + 1) 38 #[.int .i64 0, .int .i64 0, .int .i64 0, .int .i64 0, .int .i64 0, .int .i64 0, .int .i64 0, .int .i64 0, .int .i64 0, .int .i64 0, .int .i64 0, .int .i64 0, .int .i64 0] ∧ Blk W g8 83 #[.int .i64 r1, .int .i64 r2] ∧ Blk W g9 83 #[.int .i64 s1, .int .i64 s2] ∧ Blk W g10 83 #[.int .i64 n1, .int .i64 n2] ∧ Blk W g11 83 #[.int .i64 gn1, .int .i64 gn2] ∧ Blk W g12 83 #[.int .i64 pn1, .int .i64 pn2] ∧ Blk W g13 83 #[.int .i64 jn1, .int .i64 jn2]) ⟨belowp hB (by omega), b0.farp (by omega), b1.farp (by omega), b2.farp (by omega), b3.farp (by omega), b8.farp hne_b8, b9.farp hne_b9, b10.farp hne_b10, b11.farp hne_b11, b12.farp hne_b12, b13.setp⟩ ?_
  clear hB b0 b1 b2 b3 b8 b9 b10 b11 b12 b13 x0 x1 x2 x3 hne_b8 hne_b9 hne_b10 hne_b11 hne_b12
  rintro W13 ⟨hB, b0, b1, b2, b3, b8, b9, b10, b11, b12, b13⟩
  clear kh1 kh2 kh3
  obtain ⟨a0, a1, _, _⟩ := b9.facts2
  have a0' := fun d os => cell_regrown a0 d os
  have a1' := fun d os => cell_regrown a1 d os
  obtain ⟨q0, q1, _, _⟩ := b8.facts2
  have q0' := fun d os => cell_regrown q0 d os
  have q1' := fun d os => cell_regrown q1 d os
  obtain ⟨x0, x1, _, _⟩ := b10.facts2
  have x0' := fun d os => cell_regrown x0 d os
  have x1' := fun d os => cell_regrown x1 d os
  obtain ⟨u0, u1, _, _⟩ := b12.facts2
  have u0' := fun d os => cell_regrown u0 d os
  have u1' := fun d os => cell_regrown u1 d os
  obtain ⟨m0, m1, _, _⟩ := b11.facts2
  have m0' := fun d os => cell_regrown m0 d os
  have m1' := fun d os => cell_regrown m1 d os
  obtain ⟨j0, j1, _, _⟩ := b13.facts2
  have j0' := fun d os => cell_regrown j0 d os
  have j1' := fun d os => cell_regrown j1 d os
  obtain ⟨d0, d1, _, _⟩ := b2.facts2
  have d0' := fun d os => cell_regrown d0 d os
  have d1' := fun d os => cell_regrown d1 d os
  obtain ⟨v0, v1, v2, v3, v4, v5, v6, v7, v8, v9, v10, v11, v12⟩ := b1.facts13
  have v2' := fun d os => cell_regrown v2 d os
  have v3' := fun d os => cell_regrown v3 d os
  have v4' := fun d os => cell_regrown v4 d os
  have v5' := fun d os => cell_regrown v5 d os
  have v6' := fun d os => cell_regrown v6 d os
  have v7' := fun d os => cell_regrown v7 d os
  have v10' := fun d os => cell_regrown v10 d os
  have v11' := fun d os => cell_regrown v11 d os
  have v12' := fun d os => cell_regrown v12 d os
  refine wp_region_one_below 28 14 38 #[.int .i64 0, .int .i64 0, .int .i64 0, .int .i64 0, .int .i64 0, .int .i64 0, .int .i64 0, .int .i64 0, .int .i64 0, .int .i64 0, .int .i64 0, .int .i64 0, .int .i64 0] (by kernel_rfl) (by kernel_rfl) ⟨_, rfl, rfl, rfl, fun a w => by kernel_rfl⟩ (by kernel_rfl) (by kernel_rfl) ?_
  simp only [List.take_succ_cons, List.take_zero, List.drop_succ_cons, List.drop_zero]
  repeat ((refine wpCalm_step (fun K hK => ?_)); go_simp; first | (refine hK _ ?_; clear hK K) | fail)
  (refine wpCalm_step (fun K hK => ?_)); go_simp; (apply Exists.intro; refine ⟨fun _ => ?_, hK _ ?_⟩; (first | (go_at_call 51; exact calm_call (fun W1 _ => hex.out W1))); clear hK K)
  repeat ((refine wpCalm_step (fun K hK => ?_)); go_simp; first | (refine hK _ ?_; clear hK K) | fail)
  (refine wpCalm_step (fun K hK => ?_)); go_simp; (apply Exists.intro; refine ⟨fun _ => ?_, hK _ ?_⟩; (first | (go_at_call 54; exact calm_call (fun W1 _ => kl.out W1))); clear hK K)
  repeat ((refine wpCalm_step (fun K hK => ?_)); go_simp; first | (refine hK _ ?_; clear hK K) | fail)
  (refine wpCalm_step (fun K hK => ?_)); go_simp; (apply Exists.intro; refine ⟨fun _ => ?_, hK _ ?_⟩; (first | (go_at_call 52; exact calm_call (fun W1 _ => kx.out W1))); clear hK K)
  repeat ((refine wpCalm_step (fun K hK => ?_)); go_simp; first | (refine hK _ ?_; clear hK K) | fail)
  (refine wpCalm_step (fun K hK => ?_)); go_simp; (apply Exists.intro; refine ⟨fun _ => ?_, hK _ ?_⟩; (first | (go_at_call 53; exact calm_call (fun W1 _ => kS.out W1))); clear hK K)
  repeat ((refine wpCalm_step (fun K hK => ?_)); go_simp; first | (refine hK _ ?_; clear hK K) | fail)
  (refine wpCalm_step (fun K hK => ?_)); go_simp; (apply Exists.intro; refine ⟨fun _ => ?_, hK _ ?_⟩; (first | (go_at_call 69; exact calm_call (fun W1 _ => kE.out W1))); clear hK K)
  repeat ((refine wpCalm_step (fun K hK => ?_)); go_simp; first | (refine hK _ ?_; clear hK K) | fail)
  (refine wpCalm_step (fun K hK => ?_)); go_simp; (apply Exists.intro; refine ⟨fun _ => ?_, hK _ ?_⟩; (first | (go_at_call 69; exact calm_call (fun W1 _ => kP.out W1))); clear hK K)
  repeat ((refine wpCalm_step (fun K hK => ?_)); go_simp; first | (refine hK _ ?_; clear hK K) | fail)
  (refine wpCalm_step (fun K hK => ?_)); go_simp; (apply Exists.intro; refine ⟨fun _ => ?_, hK _ ?_⟩; (first | (go_at_call 69; exact calm_call (fun W1 _ => kG.out W1))); clear hK K)
  repeat ((refine wpCalm_step (fun K hK => ?_)); go_simp; first | (refine hK _ ?_; clear hK K) | fail)
  (refine wpCalm_step (fun K hK => ?_)); go_simp; (apply Exists.intro; refine ⟨fun _ => ?_, hK _ ?_⟩; (first | (go_at_call 69; exact calm_call (fun W1 _ => kU.out W1))); clear hK K)
  repeat ((refine wpCalm_step (fun K hK => ?_)); go_simp; first | (refine hK _ ?_; clear hK K) | fail)
  (refine wpCalm_step (fun K hK => ?_)); go_simp; (apply Exists.intro; refine ⟨fun _ => ?_, hK _ ?_⟩; (first | (go_at_call 54; exact calm_call (fun W1 _ => kT.out W1))); clear hK K)
  repeat ((refine wpCalm_step (fun K hK => ?_)); go_simp; first | (refine hK _ ?_; clear hK K) | fail)
  refine wpCalm_nil ?_
  intro W14 g14 hb b14 hg_g14
  simp only [Act.put, List.setIfInBounds_toArray, List.set_cons_zero, List.set_cons_succ]
  have hlt_g14 : w.heap.size + 1 + 1 + 1 < g14 := by have := b3.lt; omega
  have hne_b8 : g8 ≠ g14 := by have := b8.lt; omega
  have hne_b9 : g9 ≠ g14 := by have := b9.lt; omega
  have hne_b10 : g10 ≠ g14 := by have := b10.lt; omega
  have hne_b11 : g11 ≠ g14 := by have := b11.lt; omega
  have hne_b12 : g12 ≠ g14 := by have := b12.lt; omega
  have hne_b13 : g13 ≠ g14 := by have := b13.lt; omega
  replace b0 := b0.below hb b0.lt
  replace b1 := b1.below hb b1.lt
  replace b2 := b2.below hb b2.lt
  replace b3 := b3.below hb b3.lt
  replace b8 := b8.below hb b8.lt
  replace b9 := b9.below hb b9.lt
  replace b10 := b10.below hb b10.lt
  replace b11 := b11.below hb b11.lt
  replace b12 := b12.below hb b12.lt
  replace b13 := b13.below hb b13.lt
  replace hB := hB.trans (hb.mono hB.size)
  clear hb hg_g14 a0 a1 q0 q1 x0 x1 u0 u1 m0 m1 j0 j1 d0 d1 v0 v1 v2 v3 v4 v5 v6 v7 v8 v9 v10 v11 v12 a0' a1' q0' q1' x0' x1' u0' u1' m0' m1' j0' j1' d0' d1' v2' v3' v4' v5' v6' v7' v10' v11' v12'
  obtain ⟨x0, x1, x2, x3, x4, x5, x6, x7, x8, x9, x10, x11, x12⟩ := b14.facts13
  obtain ⟨f0, f1, f2, f3, f4, f5, f6, f7, f8, f9, f10, f11, f12⟩ := b14.frozen13
  go_upto_region 7 with fail
  refine wp_world (fun W => Below w.heap.size w W ∧ Blk W w.heap.size 36 #[.slice A y.ts.length ca, .slice B y.rs.length cb, .int .i64 y.p1, .int .i64 y.p2, .int .i64 y.g1, .int .i64 y.g2, .int .i64 y.h1, .int .i64 y.h2] ∧ Blk W (w.heap.size + 1) 38 #[.int .i64 s1, .int .i64 s2, .int .i64 e1, .int .i64 e2, .int .i64 p1, .int .i64 p2, .int .i64 g1, .int .i64 g2, .int .i64 o1, .int .i64 o2, .int .i64 t1, .int .i64 t2, .int .i64 c] ∧ Blk W (w.heap.size + 1 + 1) 23 #[.int .i64 d1, .int .i64 d2] ∧ Blk W (w.heap.size + 1 + 1 + 1) 38 #[.int .i64 0, .int .i64 0, .int .i64 0, .int .i64 0, .int .i64 0, .int .i64 0, .int .i64 0, .int .i64 0, .int .i64 0, .int .i64 0, .int .i64 0, .int .i64 0, .int .i64 0] ∧ Blk W g8 83 #[.int .i64 r1, .int .i64 r2] ∧ Blk W g9 83 #[.int .i64 s1, .int .i64 s2] ∧ Blk W g10 83 #[.int .i64 n1, .int .i64 n2] ∧ Blk W g11 83 #[.int .i64 gn1, .int .i64 gn2] ∧ Blk W g12 83 #[.int .i64 pn1, .int .i64 pn2] ∧ Blk W g13 83 #[.int .i64 jn1, .int .i64 jn2] ∧ Blk W g14 38 #[.int .i64 S1, .int .i64 S2, .int .i64 E1, .int .i64 E2, .int .i64 P1, .int .i64 P2, .int .i64 G1, .int .i64 G2, .int .i64 gn1, .int .i64 gn2, .int .i64 T1, .int .i64 T2, .int .i64 c]) ⟨below13 hB (by omega), b0.farsets13 (by omega), b1.farsets13 (by omega), b2.farsets13 (by omega), b3.farsets13 (by omega), b8.farsets13 hne_b8, b9.farsets13 hne_b9, b10.farsets13 hne_b10, b11.farsets13 hne_b11, b12.farsets13 hne_b12, b13.farsets13 hne_b13, b14.sets13⟩ ?_
  clear hB b0 b1 b2 b3 b8 b9 b10 b11 b12 b13 b14 x0 x1 x2 x3 x4 x5 x6 x7 x8 x9 x10 x11 x12 f0 f1 f2 f3 f4 f5 f6 f7 f8 f9 f10 f11 f12 hne_b8 hne_b9 hne_b10 hne_b11 hne_b12 hne_b13
  rintro W15 ⟨hB, b0, b1, b2, b3, b8, b9, b10, b11, b12, b13, b14⟩
  clear hex kl kx kS kE kP kG kU kT b0 b1 b2 b8 b9 b10 b11 b12 b13
  obtain ⟨h0, h1, h2, h3, h4, h5, h6, h7, h8, h9, h10, h11, h12⟩ := b14.facts13
  go_wp2_with fail
  refine (hsf.out _).mono ?_
  rintro e W16 ⟨r, rfl, hr, hb⟩
  replace b3 := b3.below hb b3.lt
  replace b14 := b14.below hb b14.lt
  replace hB := hB.trans (hb.mono hB.size)
  clear hb hsf h0 h1 h2 h3 h4 h5 h6 h7 h8 h9 h10 h11 h12
  obtain ⟨z0, z1, z2, z3, z4, z5, z6, z7, z8, z9, z10, z11, z12⟩ := b3.facts13
  obtain ⟨f0, f1, f2, f3, f4, f5, f6, f7, f8, f9, f10, f11, f12⟩ := b3.frozen13
  obtain ⟨h0, h1, h2, h3, h4, h5, h6, h7, h8, h9, h10, h11, h12⟩ := b14.facts13
  cases r with
  | false =>
    replace hno := Lib.hid (hno.out (fun h => Bool.noConfusion (hr.2 h)))
    clear hr hyes
    go_wp2_with fail
    refine ret_world (fun W => Below w.heap.size w W ∧ Blk W (w.heap.size + 1 + 1 + 1) 38 #[.int .i64 0, .int .i64 0, .int .i64 0, .int .i64 0, .int .i64 0, .int .i64 0, .int .i64 0, .int .i64 0, .int .i64 0, .int .i64 0, .int .i64 0, .int .i64 0, .int .i64 0]) ⟨below13 hB (by omega), b3.sets13⟩ ?_
    clear hB b3 b14 z0 z1 z2 z3 z4 z5 z6 z7 z8 z9 z10 z11 z12 f0 f1 f2 f3 f4 f5 f6 f7 f8 f9 f10 f11 f12 h0 h1 h2 h3 h4 h5 h6 h7 h8 h9 h10 h11 h12
    rintro W ⟨hB, b3⟩
    obtain ⟨z0, z1, z2, z3, z4, z5, z6, z7, z8, z9, z10, z11, z12⟩ := b3.facts13
    exact bodyPost_ret (v := .tuple #[.agg #[.int .i64 0, .int .i64 0, .int .i64 0, .int .i64 0, .int .i64 0, .int .i64 0, .int .i64 0, .int .i64 0, .int .i64 0, .int .i64 0, .int .i64 0, .int .i64 0, .int .i64 0], .int .i64 12]) (by simp [results, Try.results58, go_sem, z0, z1, z2, z3, z4, z5, z6, z7, z8, z9, z10, z11, z12]) rfl (hno.out _ hB)
  | true =>
    replace hyes := Lib.hid (hyes.out (hr.1 rfl))
    clear hr hno
    go_wp2_with fail
    refine ret_world (fun W => Below w.heap.size w W ∧ Blk W (w.heap.size + 1 + 1 + 1) 38 #[.int .i64 S1, .int .i64 S2, .int .i64 E1, .int .i64 E2, .int .i64 P1, .int .i64 P2, .int .i64 G1, .int .i64 G2, .int .i64 gn1, .int .i64 gn2, .int .i64 T1, .int .i64 T2, .int .i64 c]) ⟨below13 hB (by omega), b3.sets13⟩ ?_
    clear hB b3 b14 z0 z1 z2 z3 z4 z5 z6 z7 z8 z9 z10 z11 z12 f0 f1 f2 f3 f4 f5 f6 f7 f8 f9 f10 f11 f12 h0 h1 h2 h3 h4 h5 h6 h7 h8 h9 h10 h11 h12
    rintro W ⟨hB, b3⟩
    obtain ⟨z0, z1, z2, z3, z4, z5, z6, z7, z8, z9, z10, z11, z12⟩ := b3.facts13
    exact bodyPost_ret (v := .tuple #[.agg #[.int .i64 S1, .int .i64 S2, .int .i64 E1, .int .i64 E2, .int .i64 P1, .int .i64 P2, .int .i64 G1, .int .i64 G2, .int .i64 gn1, .int .i64 gn2, .int .i64 T1, .int .i64 T2, .int .i64 c], .int .i64 0]) (by simp [results, Try.results58, go_sem, z0, z1, z2, z3, z4, z5, z6, z7, z8, z9, z10, z11, z12]) rfl (hyes.out _ hB)
end Go.Proofs.Ytjcadgklamhohaa
