/- The value between the rows and columns of a table. -/
import Derived.Test.YtcghafdemklnnaaFind2
import Derived.Test.YtcghafdemklnnaaPlace
import Derived.Test.YtcghafdemklnnaaTwo
import Derived.Deep.RegionHeld3
import Derived.Deep.DeepCutAuto
namespace Go.Proofs.Ytcghafdemklnnaa
open Go.RowKit Go.Sort Go.Shelf
attribute [local go_sem] Oper.calm Oper.calmAt Oper.calmUpon

theorem mul_in {a b A B : Int} (h1 : 0 ≤ a) (h2 : a ≤ A) (h3 : -B ≤ b) (h4 : b ≤ B) (hB : 0 ≤ B) : -(A * B) ≤ a * b ∧ a * b ≤ A * B := by
  have e1 : a * b ≤ a * B := Int.mul_le_mul_of_nonneg_left h4 h1
  have e2 : a * -B ≤ a * b := Int.mul_le_mul_of_nonneg_left h3 h1
  have e3 : a * B ≤ A * B := Int.mul_le_mul_of_nonneg_right h2 hB
  have e4 : a * -B = -(a * B) := Int.mul_neg _ _
  omega

structure AxisOk (xs : List Int) (lo hi : Int) : Prop where
  two : 2 ≤ xs.length
  most : xs.length ≤ 32
  rise : Rising xs
  bd : ∀ j : Nat, j < xs.length → lo ≤ xs[j]?.getD 0 ∧ xs[j]?.getD 0 ≤ hi

theorem AxisOk.all {xs : List Int} {lo hi : Int} (h : AxisOk xs lo hi) (h0 : lo ≤ 0) (h1 : 0 ≤ hi) (j : Nat) : lo ≤ xs[j]?.getD 0 ∧ xs[j]?.getD 0 ≤ hi := by
  rcases Nat.lt_or_ge j xs.length with h2 | h2
  · exact h.bd j h2
  · rw [List.getElem?_eq_none h2]; exact ⟨h0, h1⟩

/-- x is within the numbers of the axis -/
def Within (xs : List Int) (x : Int) : Prop := xs[0]?.getD 0 ≤ x ∧ x ≤ xs[xs.length - 1]?.getD 0
theorem plcOf_in {xs : List Int} {lo hi x : Int} (h : AxisOk xs lo hi) (hx : Within xs x) : xs[plcOf xs x]?.getD 0 ≤ x ∧ x ≤ xs[plcOf xs x + 1]?.getD 0 := by
  obtain ⟨h1, h2, h3⟩ := plc_spec (fun i => xs[i]?.getD 0) (xs.length - 2) x
  have h2l := h.two
  constructor
  · rcases Nat.eq_zero_or_pos (plcOf xs x) with h0 | h0
    · rw [h0]; exact hx.1
    · have := h2 (plcOf xs x - 1) (by unfold plcOf at h0 ⊢; omega)
      rwa [show plcOf xs x - 1 + 1 = plcOf xs x by omega] at this
  · rcases Nat.lt_or_ge (plcOf xs x) (xs.length - 2) with h4 | h4
    · exact Int.le_of_lt (h3 h4)
    · have : plcOf xs x + 1 = xs.length - 1 := by unfold plcOf at h4 ⊢; omega
      rw [this]; exact hx.2
theorem plcOf_bd {xs : List Int} {lo hi x : Int} (h : AxisOk xs lo hi) (hx : Within xs x) : 0 ≤ x - xs[plcOf xs x]?.getD 0 ∧ x - xs[plcOf xs x]?.getD 0 ≤ hi - lo ∧ 0 ≤ xs[plcOf xs x + 1]?.getD 0 - x ∧ xs[plcOf xs x + 1]?.getD 0 - x ≤ hi - lo ∧ 0 < (x - xs[plcOf xs x]?.getD 0) + (xs[plcOf xs x + 1]?.getD 0 - x) ∧ (x - xs[plcOf xs x]?.getD 0) + (xs[plcOf xs x + 1]?.getD 0 - x) ≤ hi - lo := by
  obtain ⟨h1, h2⟩ := plcOf_in h hx
  have h3 := plcOf_lt h.two x
  have h4 := h.bd (plcOf xs x) (by omega)
  have h5 := h.bd (plcOf xs x + 1) h3
  have h6 := h.rise (plcOf xs x) (plcOf xs x + 1) (by omega) h3
  omega

/-- the rows of a table in memory -/
def Grid (w : World) (rb roff : Nat) (rows : List (List Int)) : Prop :=
  rb < w.heap.size ∧ ∀ i, i < rows.length → ∃ b off cap, w.cell? ⟨rb, roff + i, none⟩ = some (.slice (some ⟨b, off, none⟩) (rows[i]?.getD []).length cap) ∧ Row w b off (rows[i]?.getD [])
theorem Grid.below {w w' : World} {rb roff : Nat} {rows : List (List Int)} (h : Grid w rb roff rows) (hb : Below w.heap.size w w') : Grid w' rb roff rows :=
  ⟨Nat.lt_of_lt_of_le h.1 hb.size, fun i hi => by
    obtain ⟨b, off, cap, h1, h2⟩ := h.2 i hi
    exact ⟨b, off, cap, (hb.cell (p := ⟨rb, roff + i, none⟩) h.1).trans h1, h2.below hb⟩⟩

/-- between four numbers of rows -/
def cellAt (rows : List (List Int)) (i j : Nat) : Int := (rows[i]?.getD [])[j]?.getD 0
def valNum (T S : List Int) (rows : List (List Int)) (x s : Int) : Int :=
  (T[plcOf T x + 1]?.getD 0 - x) * ((S[plcOf S s + 1]?.getD 0 - s) * cellAt rows (plcOf T x) (plcOf S s) + (s - S[plcOf S s]?.getD 0) * cellAt rows (plcOf T x) (plcOf S s + 1))
  + (x - T[plcOf T x]?.getD 0) * ((S[plcOf S s + 1]?.getD 0 - s) * cellAt rows (plcOf T x + 1) (plcOf S s) + (s - S[plcOf S s]?.getD 0) * cellAt rows (plcOf T x + 1) (plcOf S s + 1))
def valDen (T S : List Int) (x s : Int) : Int :=
  ((x - T[plcOf T x]?.getD 0) + (T[plcOf T x + 1]?.getD 0 - x)) * ((s - S[plcOf S s]?.getD 0) + (S[plcOf S s + 1]?.getD 0 - s))

structure GridOk (T S : List Int) (rows : List (List Int)) : Prop where
  len : rows.length = T.length
  row : ∀ i, i < rows.length → (rows[i]?.getD []).length = S.length
  bd : ∀ i j, -1100000 ≤ cellAt rows i j ∧ cellAt rows i j ≤ 1100000

set_option maxHeartbeats 4000000 in
set_option maxRecDepth 100000 in
theorem value_any (tb toff tcap sb soff scap rb roff rcap : Nat) (v2 v3 : Value) (T S : List Int) (rows : List (List Int)) (x s : Int) (w : World) (h2 : ∃ A l c, v2 = .slice A l c) (h3 : ∃ A l c, v3 = .slice A l c)
    (hT : Hid (AxisOk T (-500) 1000)) (hS : Hid (AxisOk S 0 10000)) (hg : Hid (GridOk T S rows)) (hx : Hid (Within T x)) (hs : Hid (Within S s)) (rT : Row w tb toff T) (rS : Row w sb soff S) (rG : Grid w rb roff rows) :
    Calls Try.prog 85 #[.agg #[.slice (some ⟨tb, toff, none⟩) T.length tcap, .slice (some ⟨sb, soff, none⟩) S.length scap, v2, v3], .slice (some ⟨rb, roff, none⟩) rows.length rcap, .int .i64 x, .int .i64 s] w fun e w' =>
      e = .returned (.agg #[.int .i64 (valNum T S rows x s), .int .i64 (valDen T S x s)]) ∧ Below w.heap.size w w' := by
  obtain ⟨A2, l2, c2, rfl⟩ := h2
  obtain ⟨A3, l3, c3, rfl⟩ := h3
  have hlT := plcOf_lt hT.out.two x
  have hlS := plcOf_lt hS.out.two s
  obtain ⟨p1, p2, p3, p4, p5, p6⟩ := plcOf_bd hT.out hx.out
  obtain ⟨q1, q2, q3, q4, q5, q6⟩ := plcOf_bd hS.out hs.out
  have hxb := plcOf_in hT.out hx.out
  have hsb := plcOf_in hS.out hs.out
  have findT : Hid (∀ W, Below w.heap.size w W → Calls Try.prog 87 #[.slice (some ⟨tb, toff, none⟩) T.length tcap, .int .i64 x] W fun e w' => e = .returned (.agg #[.int .i64 (plcOf T x), .int .i64 (x - T[plcOf T x]?.getD 0), .int .i64 (T[plcOf T x + 1]?.getD 0 - x)]) ∧ Below W.heap.size W w') :=
    Lib.hid fun W hW => find_any tb toff tcap T x W hT.out.two (by have := hT.out.most; omega) (rT.below hW) (Lib.hid hT.out.rise) (Lib.hid fun j => by have := hT.out.all (by omega) (by omega) j; omega) (by have := hT.out.bd 0 (by have := hT.out.two; omega); have := hx.out.1; omega) (by have := hT.out.bd (T.length - 1) (by have := hT.out.two; omega); have := hx.out.2; omega)
  have findS : Hid (∀ W, Below w.heap.size w W → Calls Try.prog 87 #[.slice (some ⟨sb, soff, none⟩) S.length scap, .int .i64 s] W fun e w' => e = .returned (.agg #[.int .i64 (plcOf S s), .int .i64 (s - S[plcOf S s]?.getD 0), .int .i64 (S[plcOf S s + 1]?.getD 0 - s)]) ∧ Below W.heap.size W w') :=
    Lib.hid fun W hW => find_any sb soff scap S s W hS.out.two (by have := hS.out.most; omega) (rS.below hW) (Lib.hid hS.out.rise) (Lib.hid fun j => by have := hS.out.all (by omega) (by omega) j; omega) (by have := hS.out.bd 0 (by have := hS.out.two; omega); have := hs.out.1; omega) (by have := hS.out.bd (S.length - 1) (by have := hS.out.two; omega); have := hs.out.2; omega)
  have hgl := hg.out.len
  obtain ⟨ub, uoff, ucap, uc, ur⟩ := rG.2 (plcOf T x) (by omega)
  obtain ⟨lb, loff, lcap, lc, lr⟩ := rG.2 (plcOf T x + 1) (by omega)
  have hrl0 := hg.out.row (plcOf T x) (by omega)
  have hrl1 := hg.out.row (plcOf T x + 1) (by omega)
  have cu0 := ur.2 (plcOf S s) (by omega)
  have cu1 := ur.2 (plcOf S s + 1) (by omega)
  have cl0 := lr.2 (plcOf S s) (by omega)
  have cl1 := lr.2 (plcOf S s + 1) (by omega)
  rw [hrl0] at uc
  rw [hrl1] at lc
  have bu0 := hg.out.bd (plcOf T x) (plcOf S s)
  have bu1 := hg.out.bd (plcOf T x) (plcOf S s + 1)
  have bl0 := hg.out.bd (plcOf T x + 1) (plcOf S s)
  have bl1 := hg.out.bd (plcOf T x + 1) (plcOf S s + 1)
  have hfin : Hid (∀ u0 u1 l0 l1 rp rl cp cl : Int, cellAt rows (plcOf T x) (plcOf S s) = u0 → cellAt rows (plcOf T x) (plcOf S s + 1) = u1 → cellAt rows (plcOf T x + 1) (plcOf S s) = l0 → cellAt rows (plcOf T x + 1) (plcOf S s + 1) = l1 →
      x - T[plcOf T x]?.getD 0 = rp → T[plcOf T x + 1]?.getD 0 - x = rl → s - S[plcOf S s]?.getD 0 = cp → S[plcOf S s + 1]?.getD 0 - s = cl →
      Ending.returned (.agg #[.int .i64 (rl * (cl * u0 + cp * u1) + rp * (cl * l0 + cp * l1)), .int .i64 ((rp + rl) * (cp + cl))]) = .returned (.agg #[.int .i64 (valNum T S rows x s), .int .i64 (valDen T S x s)])) :=
    Lib.hid (by rintro _ _ _ _ _ _ _ _ rfl rfl rfl rfl rfl rfl rfl rfl; rfl)
  have hlen : (T.length : Int) = rows.length := by omega
  change w.cell? ⟨ub, uoff + plcOf S s, none⟩ = some (.int .i64 (cellAt rows (plcOf T x) (plcOf S s))) at cu0
  change w.cell? ⟨ub, uoff + (plcOf S s + 1), none⟩ = some (.int .i64 (cellAt rows (plcOf T x) (plcOf S s + 1))) at cu1
  change w.cell? ⟨lb, loff + plcOf S s, none⟩ = some (.int .i64 (cellAt rows (plcOf T x + 1) (plcOf S s))) at cl0
  change w.cell? ⟨lb, loff + (plcOf S s + 1), none⟩ = some (.int .i64 (cellAt rows (plcOf T x + 1) (plcOf S s + 1))) at cl1
  generalize hu0 : cellAt rows (plcOf T x) (plcOf S s) = u0 at cu0 bu0
  generalize hu1 : cellAt rows (plcOf T x) (plcOf S s + 1) = u1 at cu1 bu1
  generalize hl0 : cellAt rows (plcOf T x + 1) (plcOf S s) = l0 at cl0 bl0
  generalize hl1 : cellAt rows (plcOf T x + 1) (plcOf S s + 1) = l1 at cl1 bl1
  generalize hrp : x - T[plcOf T x]?.getD 0 = rp at findT p1 p2 p5 p6
  generalize hrl : T[plcOf T x + 1]?.getD 0 - x = rl at findT p3 p4 p5 p6
  generalize hcp : s - S[plcOf S s]?.getD 0 = cp at findS q1 q2 q5 q6
  generalize hcl : S[plcOf S s + 1]?.getD 0 - s = cl at findS q3 q4 q5 q6
  replace hfin := Lib.hid (hfin.out u0 u1 l0 l1 rp rl cp cl hu0 hu1 hl0 hl1 hrp hrl hcp hcl)
  generalize plcOf T x = r at findT uc lc hlT
  generalize plcOf S s = c at findS cu0 cu1 cl0 cl1 hlS
  have hTm := hT.out.most
  have hSm := hS.out.most
  clear hu0 hu1 hl0 hl1 hrp hrl hcp hcl hxb hsb hx hs hT hS ur lr rT rS hrl0 hrl1
  go_enter Try.func85, Try.ntmps85
  go_upto_region 1 with fail
  have hA : Blk ((w.alloc (Obj.cells #[Value.slice (some ⟨tb, toff, none⟩) T.length tcap, Value.slice (some ⟨sb, soff, none⟩) S.length scap, Value.slice A2 l2 c2, Value.slice A3 l3 c3] 25)).alloc (Obj.cells #[Value.int IntKind.i64 0, Value.int IntKind.i64 0] 77)) w.heap.size 25 #[Value.slice (some ⟨tb, toff, none⟩) T.length tcap, Value.slice (some ⟨sb, soff, none⟩) S.length scap, Value.slice A2 l2 c2, Value.slice A3 l3 c3] := (Blk.new w _ _).alloc _
  have hR : Blk ((w.alloc (Obj.cells #[Value.slice (some ⟨tb, toff, none⟩) T.length tcap, Value.slice (some ⟨sb, soff, none⟩) S.length scap, Value.slice A2 l2 c2, Value.slice A3 l3 c3] 25)).alloc (Obj.cells #[Value.int IntKind.i64 0, Value.int IntKind.i64 0] 77)) (w.heap.size + 1) 77 #[Value.int IntKind.i64 0, Value.int IntKind.i64 0] := by
    have := Blk.new (w.alloc (Obj.cells #[Value.slice (some ⟨tb, toff, none⟩) T.length tcap, Value.slice (some ⟨sb, soff, none⟩) S.length scap, Value.slice A2 l2 c2, Value.slice A3 l3 c3] 25)) 77 #[Value.int IntKind.i64 0, Value.int IntKind.i64 0]
    rwa [World.size_alloc] at this
  have hb0 : Below w.heap.size w ((w.alloc (Obj.cells #[Value.slice (some ⟨tb, toff, none⟩) T.length tcap, Value.slice (some ⟨sb, soff, none⟩) S.length scap, Value.slice A2 l2 c2, Value.slice A3 l3 c3] 25)).alloc (Obj.cells #[Value.int IntKind.i64 0, Value.int IntKind.i64 0] 77)) := ((Below.refl _ _).alloc (Nat.le_refl _) _).alloc (by simp) _
  have hz0 : w.heap.size + 1 < ((w.alloc (Obj.cells #[Value.slice (some ⟨tb, toff, none⟩) T.length tcap, Value.slice (some ⟨sb, soff, none⟩) S.length scap, Value.slice A2 l2 c2, Value.slice A3 l3 c3] 25)).alloc (Obj.cells #[Value.int IntKind.i64 0, Value.int IntKind.i64 0] 77)).heap.size := by simp
  generalize ((w.alloc (Obj.cells #[Value.slice (some ⟨tb, toff, none⟩) T.length tcap, Value.slice (some ⟨sb, soff, none⟩) S.length scap, Value.slice A2 l2 c2, Value.slice A3 l3 c3] 25)).alloc (Obj.cells #[Value.int IntKind.i64 0, Value.int IntKind.i64 0] 77)) = W at hA hR hb0 hz0 ⊢
  have hA0 := hA.cell 0
  have hA1 := hA.cell 1
  simp at hA0 hA1
  have hA0' := fun d os => cell_regrown hA0 d os
  have hA1' := fun d os => cell_regrown hA1 d os
  refine wp_region_two_below 8 9 10 114 114 #[.int .i64 0, .int .i64 0, .int .i64 0] #[.int .i64 0, .int .i64 0, .int .i64 0] (by kernel_rfl) (by kernel_rfl)
    ⟨_, rfl, rfl, rfl, fun a w => by kernel_rfl⟩ ⟨_, rfl, rfl, rfl, fun a w => by kernel_rfl⟩ (by decide) (by kernel_rfl) (by kernel_rfl) ?_
  simp only [List.take_succ_cons, List.take_zero, List.drop_succ_cons, List.drop_zero]
  repeat ((refine wpCalm_step (fun K hK => ?_)); go_simp; first | (refine hK _ ?_; clear hK K) | (apply Exists.intro; refine ⟨fun _ => ?_, hK _ ?_⟩; (first | (go_at_call_of 87 (Value.int IntKind.i64 x); exact calm_call (fun W1 h1 => findT.out W1 (hb0.trans (h1.mono hb0.size)))) | (go_at_call_of 87 (Value.int IntKind.i64 s); exact calm_call (fun W1 h1 => findS.out W1 (hb0.trans (h1.mono hb0.size))))); clear hK K))
  refine wpCalm_nil ?_
  intro w1 g1 g2 hb1 hB1 hB2 hg1 hg2 hne
  simp only [Act.put, List.setIfInBounds_toArray, List.set_cons_zero, List.set_cons_succ]
  obtain ⟨x0, x1, x2, x3, x4, x5⟩ := hB1.facts3
  obtain ⟨y0, y1, y2, y3, y4, y5⟩ := hB2.facts3
  clear hA0 hA1 hA0' hA1'
  go_upto_region 2 with fail
  have hC1 : Blk ((((((w1.setCell ⟨g1, 0, none⟩ (Value.int IntKind.i64 r)).setCell ⟨g1, 1, none⟩ (Value.int IntKind.i64 rp)).setCell ⟨g1, 2, none⟩ (Value.int IntKind.i64 rl)).setCell ⟨g2, 0, none⟩ (Value.int IntKind.i64 c)).setCell ⟨g2, 1, none⟩ (Value.int IntKind.i64 cp)).setCell ⟨g2, 2, none⟩ (Value.int IntKind.i64 cl)) g1 114 #[.int .i64 r, .int .i64 rp, .int .i64 rl] := (((((hB1.set_ 0 _).set_ 1 _).set_ 2 _).far hne _).far hne _).far hne _
  have hC2 : Blk ((((((w1.setCell ⟨g1, 0, none⟩ (Value.int IntKind.i64 r)).setCell ⟨g1, 1, none⟩ (Value.int IntKind.i64 rp)).setCell ⟨g1, 2, none⟩ (Value.int IntKind.i64 rl)).setCell ⟨g2, 0, none⟩ (Value.int IntKind.i64 c)).setCell ⟨g2, 1, none⟩ (Value.int IntKind.i64 cp)).setCell ⟨g2, 2, none⟩ (Value.int IntKind.i64 cl)) g2 114 #[.int .i64 c, .int .i64 cp, .int .i64 cl] := ((((((hB2.far (p := ⟨g1, 0, none⟩) hne.symm _).far (p := ⟨g1, 1, none⟩) hne.symm _).far (p := ⟨g1, 2, none⟩) hne.symm _).set_ 0 _).set_ 1 _).set_ 2 _)
  have hbw1 : Below W.heap.size W ((((((w1.setCell ⟨g1, 0, none⟩ (Value.int IntKind.i64 r)).setCell ⟨g1, 1, none⟩ (Value.int IntKind.i64 rp)).setCell ⟨g1, 2, none⟩ (Value.int IntKind.i64 rl)).setCell ⟨g2, 0, none⟩ (Value.int IntKind.i64 c)).setCell ⟨g2, 1, none⟩ (Value.int IntKind.i64 cp)).setCell ⟨g2, 2, none⟩ (Value.int IntKind.i64 cl)) := (((((hb1.setCell (p := ⟨g1, 0, none⟩) hg1 _).setCell (p := ⟨g1, 1, none⟩) hg1 _).setCell (p := ⟨g1, 2, none⟩) hg1 _).setCell (p := ⟨g2, 0, none⟩) hg2 _).setCell (p := ⟨g2, 1, none⟩) hg2 _).setCell (p := ⟨g2, 2, none⟩) hg2 _
  generalize ((((((w1.setCell ⟨g1, 0, none⟩ (Value.int IntKind.i64 r)).setCell ⟨g1, 1, none⟩ (Value.int IntKind.i64 rp)).setCell ⟨g1, 2, none⟩ (Value.int IntKind.i64 rl)).setCell ⟨g2, 0, none⟩ (Value.int IntKind.i64 c)).setCell ⟨g2, 1, none⟩ (Value.int IntKind.i64 cp)).setCell ⟨g2, 2, none⟩ (Value.int IntKind.i64 cl)) = W2 at hC1 hC2 hbw1 ⊢
  have hR2 : Blk W2 (w.heap.size + 1) 77 #[Value.int IntKind.i64 0, Value.int IntKind.i64 0] := hR.below hbw1 hz0
  have hbw : Below w.heap.size w W2 := hb0.trans (hbw1.mono hb0.size)
  clear x0 x1 x2 x3 x4 x5 y0 y1 y2 y3 y4 y5 hB1 hB2 hb1 hA hR hbw1 findT findS
  obtain ⟨x0, x1, x2, x3, x4, x5⟩ := hC1.facts3
  obtain ⟨y0, y1, y2, y3, y4, y5⟩ := hC2.facts3
  have x0' := fun d os => cell_regrown x0 d os
  have uc' := fun d os => cell_regrown (cell_later hbw uc) d os
  have lc' := fun d os => cell_regrown (cell_later hbw lc) d os
  have hi1 : (r : Int) < rows.length := by omega
  have hi2 : (r : Int) + 1 < rows.length := by omega
  have hi3 : 0 ≤ (r : Int) + 1 := by omega
  have hi4 : ((r : Int) + 1).toNat = r + 1 := by omega
  have hi5 : IntKind.i64.wrap ((r : Int) + 1) = (r : Int) + 1 := IntWalk.i64_in _ (by omega)
  refine wp_region_quiet_below (by kernel_rfl) (by kernel_rfl) ?_
  repeat (quiet_step (fail))
  refine wpQuiet_nil ?_
  intro _ hw'
  obtain ⟨⟨dq, osq⟩, hw''⟩ := hw'
  subst hw''
  have hb3 := below_regrown W2 dq osq
  have hC1' := hC1.below hb3 hC1.lt
  have hC2' := hC2.below hb3 hC2.lt
  have hR2' := hR2.below hb3 hR2.lt
  have hbw' := hbw.trans (hb3.mono hbw.size)
  clear x0' uc' lc' x0 x1 x2 x3 x4 x5 y0 y1 y2 y3 y4 y5 hC1 hC2 hR2 hbw hb3
  generalize grow (redrawn W2 dq) osq = W3 at *
  obtain ⟨m1, m1'⟩ := mul_in q3 q4 bu0.1 bu0.2 (by omega)
  obtain ⟨m2, m2'⟩ := mul_in q1 q2 bu1.1 bu1.2 (by omega)
  obtain ⟨m3, m3'⟩ := mul_in q3 q4 bl0.1 bl0.2 (by omega)
  obtain ⟨m4, m4'⟩ := mul_in q1 q2 bl1.1 bl1.2 (by omega)
  simp only [Int.reduceMul, Int.reduceNeg, Int.reduceSub] at m1 m1' m2 m2' m3 m3' m4 m4'
  obtain ⟨m5, m5'⟩ := mul_in (b := cl * u0 + cp * u1) (B := 22000000000) p3 p4 (by omega) (by omega) (by omega)
  obtain ⟨m6, m6'⟩ := mul_in (b := cl * l0 + cp * l1) (B := 22000000000) p1 p2 (by omega) (by omega) (by omega)
  obtain ⟨m7, m7'⟩ := mul_in (Int.le_of_lt p5) p6 (b := cp + cl) (B := 10000) (by omega) (by omega) (by omega)
  simp only [Int.reduceMul, Int.reduceNeg, Int.reduceSub] at m5 m5' m6 m6' m7 m7'
  have hw1 : IntKind.i64.wrap ((rp + rl) * (cp + cl)) = (rp + rl) * (cp + cl) := IntWalk.i64_in _ (by omega)
  have hw2 : IntKind.i64.wrap ((c : Int) + 1) = (c : Int) + 1 := IntWalk.i64_in _ (by omega)
  have hj1 : (c : Int) < S.length := by omega
  have hj2 : (c : Int) + 1 < S.length := by omega
  have hj3 : 0 ≤ (c : Int) + 1 := by omega
  have hj4 : ((c : Int) + 1).toNat = c + 1 := by omega
  obtain ⟨x0, x1, x2, x3, x4, x5⟩ := hC1'.facts3
  obtain ⟨y0, y1, y2, y3, y4, y5⟩ := hC2'.facts3
  have x0' := fun d os => cell_regrown x0 d os
  have x1' := fun d os => cell_regrown x1 d os
  have x2' := fun d os => cell_regrown x2 d os
  have y0' := fun d os => cell_regrown y0 d os
  have y1' := fun d os => cell_regrown y1 d os
  have y2' := fun d os => cell_regrown y2 d os
  have cu0' := fun d os => cell_regrown (cell_later hbw' cu0) d os
  have cu1' := fun d os => cell_regrown (cell_later hbw' cu1) d os
  have cl0' := fun d os => cell_regrown (cell_later hbw' cl0) d os
  have cl1' := fun d os => cell_regrown (cell_later hbw' cl1) d os
  clear hi1 hi2 hi3 hi4 hi5 hlT hgl hlen uc lc cu0 cu1 cl0 cl1 hz0 hg1 hg2 hne hTm hSm bu0 bu1 bl0 bl1 q5 q6 hb0 rG hg
  go_upto_region 3 with fail
  refine wp_region_below_tail 34 (by kernel_rfl) (by kernel_rfl) ?_
  simp only [List.take_succ_cons, List.take_zero, List.drop_succ_cons, List.drop_zero]
  repeat (quiet_step (first | (go_at_call 89; exact quiet_call (fun W1 _ => between_any _ _ _ _ _ W1 (by omega) (by omega) (by omega) (by omega))) | (go_at_call 90; exact quiet_call (fun W1 _ => width_any _ _ _ W1 (by omega) (by omega) (by omega) (by omega)))))
  refine wpQuiet_nil ?_
  intro _ hw'
  obtain ⟨⟨dq, osq⟩, hw''⟩ := hw'
  subst hw''
  have hb4 := below_regrown W3 dq osq
  have hR3 := hR2'.below hb4 hR2'.lt
  have hbw4 := hbw'.trans (hb4.mono hbw'.size)
  clear x0' x1' x2' y0' y1' y2' cu0' cu1' cl0' cl1' x0 x1 x2 x3 x4 x5 y0 y1 y2 y3 y4 y5 hC1' hC2' hR2' hbw' hb4
  generalize grow (redrawn W3 dq) osq = W4 at hR3 hbw4 ⊢
  obtain ⟨z0, z1, z2, z3⟩ := hR3.facts2
  go_wp2
  refine bodyPost_ret (v := .agg #[.int .i64 (rl * (cl * u0 + cp * u1) + rp * (cl * l0 + cp * l1)), .int .i64 ((rp + rl) * (cp + cl))]) (by simp [results, Try.results85, go_sem, z0, z1]) rfl ⟨hfin.out, ?_⟩
  exact (hbw4.setCell (by simp) _).setCell (by simp) _
end Go.Proofs.Ytcghafdemklnnaa
