/- extremes returns the least and the greatest value over a rectangle. -/
import Derived.Test.YtcghafdemklnnaaForemost
import Derived.RegionTactic
namespace Go.Proofs.Ytcghafdemklnnaa
open Go.RowKit Go.Sort Go.Shelf

set_option maxHeartbeats 1000000 in
theorem corners_any (v0 v1 v2 v3 v4 : Value) (slo shi xlo xhi : Int) (w : World) (h0 : ∃ A l c, v0 = .slice A l c) (h1 : ∃ A l c, v1 = .slice A l c) (h2 : ∃ A l c, v2 = .slice A l c) (h3 : ∃ A l c, v3 = .slice A l c) (h4 : ∃ A l c, v4 = .slice A l c) :
    Calls Try.prog 77 #[.agg #[v0, v1, v2, v3], v4, .agg #[.int .i64 slo, .int .i64 shi], .agg #[.int .i64 xlo, .int .i64 xhi]] w fun e w' =>
      e = .returned (.func (.func 84) #[] #[.pointer (some ⟨w.heap.size, 0, none⟩), .pointer (some ⟨w.heap.size + 1 + 1 + 1, 0, none⟩), .pointer (some ⟨w.heap.size + 1 + 1, 0, none⟩), .pointer (some ⟨w.heap.size + 1, 0, none⟩)]) ∧
      w' = (((w.alloc (.cells #[v0, v1, v2, v3] 25)).alloc (.cells #[v4] 23)).alloc (.cells #[.int .i64 slo, .int .i64 shi] 27)).alloc (.cells #[.int .i64 xlo, .int .i64 xhi] 27) := by
  obtain ⟨A0, l0, c0, rfl⟩ := h0
  obtain ⟨A1, l1, c1, rfl⟩ := h1
  obtain ⟨A2, l2, c2, rfl⟩ := h2
  obtain ⟨A3, l3, c3, rfl⟩ := h3
  obtain ⟨A4, l4, c4, rfl⟩ := h4
  go_enter Try.func77, Try.ntmps77
  go_wp2
  go_ret
  exact ⟨rfl, rfl⟩

/-- what a table in memory must be for its values to be found -/
structure TabAt (w : World) (tb toff tcap sb soff scap rb roff rcap : Nat) (T S : List Int) (rows : List (List Int)) : Prop where
  T : Row w tb toff T
  S : Row w sb soff S
  G : Grid w rb roff rows

def lowF (T S : List Int) (rows : List (List Int)) (slo shi xlo xhi : Int) : Int × Int := bestF ltF (cornersL T S rows slo shi xlo xhi)
def highF (T S : List Int) (rows : List (List Int)) (slo shi xlo xhi : Int) : Int × Int := bestF gtF (cornersL T S rows slo shi xlo xhi)

theorem mem_corners {T S : List Int} {rows : List (List Int)} {slo shi xlo xhi : Int} {p : Int × Int} (h : p ∈ cornersL T S rows slo shi xlo xhi) : ∃ x s, x ∈ bendsL T xlo xhi ∧ s ∈ bendsL S slo shi ∧ p = valAt T S rows x s := by
  simp only [cornersL, List.mem_flatMap, List.mem_map] at h
  obtain ⟨x, hx, s, hs, rfl⟩ := h
  exact ⟨x, s, hx, hs, rfl⟩
theorem val_ok {T S : List Int} {rows : List (List Int)} {x s : Int} (hT : AxisOk T (-500) 1000) (hS : AxisOk S 0 10000) (hg : GridOk T S rows) (hx : Within T x) (hs : Within S s) : FracOk (valAt T S rows x s) ∧ (valAt T S rows x s).2 ≤ 15000000 ∧ -33000000000000 * 2 ≤ (valAt T S rows x s).1 ∧ (valAt T S rows x s).1 ≤ 33000000000000 * 2 := by
  obtain ⟨p1, p2, p3, p4, p5, p6⟩ := plcOf_bd hT hx
  obtain ⟨q1, q2, q3, q4, q5, q6⟩ := plcOf_bd hS hs
  have bu0 := hg.bd (plcOf T x) (plcOf S s)
  have bu1 := hg.bd (plcOf T x) (plcOf S s + 1)
  have bl0 := hg.bd (plcOf T x + 1) (plcOf S s)
  have bl1 := hg.bd (plcOf T x + 1) (plcOf S s + 1)
  unfold valAt valNum valDen FracOk
  dsimp only
  generalize x - T[plcOf T x]?.getD 0 = rp at *
  generalize T[plcOf T x + 1]?.getD 0 - x = rl at *
  generalize s - S[plcOf S s]?.getD 0 = cp at *
  generalize S[plcOf S s + 1]?.getD 0 - s = cl at *
  generalize cellAt rows (plcOf T x) (plcOf S s) = u0 at *
  generalize cellAt rows (plcOf T x) (plcOf S s + 1) = u1 at *
  generalize cellAt rows (plcOf T x + 1) (plcOf S s) = l0 at *
  generalize cellAt rows (plcOf T x + 1) (plcOf S s + 1) = l1 at *
  obtain ⟨m1, m1'⟩ := mul_in q3 q4 bu0.1 bu0.2 (by omega)
  obtain ⟨m2, m2'⟩ := mul_in q1 q2 bu1.1 bu1.2 (by omega)
  obtain ⟨m3, m3'⟩ := mul_in q3 q4 bl0.1 bl0.2 (by omega)
  obtain ⟨m4, m4'⟩ := mul_in q1 q2 bl1.1 bl1.2 (by omega)
  simp only [Int.reduceMul, Int.reduceNeg, Int.reduceSub] at m1 m1' m2 m2' m3 m3' m4 m4'
  obtain ⟨m5, m5'⟩ := mul_in (b := cl * u0 + cp * u1) (B := 22000000000) p3 p4 (by omega) (by omega) (by omega)
  obtain ⟨m6, m6'⟩ := mul_in (b := cl * l0 + cp * l1) (B := 22000000000) p1 p2 (by omega) (by omega) (by omega)
  obtain ⟨m7, m7'⟩ := mul_in (Int.le_of_lt p5) p6 (b := cp + cl) (B := 10000) (by omega) (by omega) (by omega)
  have m8 : 0 < (rp + rl) * (cp + cl) := Int.mul_pos p5 q5
  simp only [Int.reduceMul, Int.reduceNeg, Int.reduceSub] at m5 m5' m6 m6' m7 m7'
  omega

theorem corners_seq (Bt Bx Bs Br tb toff tcap sb soff scap rb roff rcap : Nat) (v2 v3 : Value) (T S : List Int) (rows : List (List Int)) (slo shi xlo xhi : Int) (h2 : ∃ A l c, v2 = .slice A l c) (h3 : ∃ A l c, v3 = .slice A l c)
    (hT : Hid (AxisOk T (-500) 1000)) (hS : Hid (AxisOk S 0 10000)) (hg : Hid (GridOk T S rows)) (hx : Hid (Within T xlo ∧ Within T xhi)) (hs : Hid (Within S slo ∧ Within S shi)) (w : World)
    (rT : Row w tb toff T) (rS : Row w sb soff S) (rG : Grid w rb roff rows)
    (bt : Blk w Bt 25 #[.slice (some ⟨tb, toff, none⟩) T.length tcap, .slice (some ⟨sb, soff, none⟩) S.length scap, v2, v3]) (bx : Blk w Bx 27 #[.int .i64 xlo, .int .i64 xhi]) (bs : Blk w Bs 27 #[.int .i64 slo, .int .i64 shi]) (br : Blk w Br 23 #[.slice (some ⟨rb, roff, none⟩) rows.length rcap]) :
    SeqB Fence.wide Try.prog 84 #[.pointer (some ⟨Bt, 0, none⟩), .pointer (some ⟨Bx, 0, none⟩), .pointer (some ⟨Bs, 0, none⟩), .pointer (some ⟨Br, 0, none⟩)] encF (cornersL T S rows slo shi xlo xhi) (fun k => k < w.heap.size) w := by
  intro n l J Jx W C hW hC hD hJ hJx hY h0
  have hz := hW.size
  have kr : Kept C w W := Kept.of_below hW
  have hG : GridD (fun k => k < w.heap.size) w rb roff rows := ⟨rG.1, rG.1, fun i hi => by obtain ⟨b, off, cap, h1, h2⟩ := rG.2 i hi; exact ⟨b, off, cap, h1, h2, h2.1⟩⟩
  exact corners1_in n l Bt Bx Bs Br tb toff tcap sb soff scap rb roff rcap v2 v3 T S rows slo shi xlo xhi h2 h3 hT hS hg hx hs (fun k => k < w.heap.size) C (Lib.hid hD) J Jx W (Lib.hid hC) (Lib.hid hJ) (Lib.hid hJx) (Lib.hid hY)
    (RowD.kept (D := fun k => k < w.heap.size) hD ⟨rT, rT.1⟩ kr) (RowD.kept (D := fun k => k < w.heap.size) hD ⟨rS, rS.1⟩ kr) (hG.kept hD kr)
    (bt.below hW bt.lt) (bx.below hW bx.lt) (bs.below hW bs.lt) (br.below hW br.lt) (Lib.hid ⟨bt.lt, bx.lt, bs.lt, br.lt⟩) h0

/-- a new block that is the k-th behind w -/
theorem blk_at {w : World} {t : TypeId} {cs : Array Value} {n : Nat} (h : w.heap.size = n) : Blk (w.alloc (.cells cs t)) n t cs := by subst h; exact Blk.new _ _ _

/-- corners, then foremost: what both leave -/
theorem best_less (tb toff tcap sb soff scap rb roff rcap : Nat) (v2 v3 : Value) (T S : List Int) (rows : List (List Int)) (slo shi xlo xhi : Int) (h2 : ∃ A l c, v2 = .slice A l c) (h3 : ∃ A l c, v3 = .slice A l c)
    (hT : Hid (AxisOk T (-500) 1000)) (hS : Hid (AxisOk S 0 10000)) (hg : Hid (GridOk T S rows)) (hx : Hid (Within T xlo ∧ Within T xhi)) (hs : Hid (Within S slo ∧ Within S shi)) (w : World)
    (rT : Row w tb toff T) (rS : Row w sb soff S) (rG : Grid w rb roff rows) (F : Nat) (p : Int × Int)
    (hF : (F = 56 ∧ p = lowF T S rows slo shi xlo xhi) ∨ (F = 59 ∧ p = highF T S rows slo shi xlo xhi)) :
    Calls Try.prog 77 #[.agg #[.slice (some ⟨tb, toff, none⟩) T.length tcap, .slice (some ⟨sb, soff, none⟩) S.length scap, v2, v3], .slice (some ⟨rb, roff, none⟩) rows.length rcap, .agg #[.int .i64 slo, .int .i64 shi], .agg #[.int .i64 xlo, .int .i64 xhi]] w fun e w' =>
      ∃ v, e = .returned v ∧ Below w.heap.size w w' ∧ Calls Try.prog 57 #[v, .func (.func F) #[] #[]] w' fun e w'' => e = .returned (.agg #[.int .i64 p.1, .int .i64 p.2]) ∧ Below w'.heap.size w' w'' := by
  refine (corners_any _ _ v2 v3 _ slo shi xlo xhi w ⟨_, _, _, rfl⟩ ⟨_, _, _, rfl⟩ h2 h3 ⟨_, _, _, rfl⟩).mono ?_
  rintro e w' ⟨rfl, hw'⟩
  have hb : Below w.heap.size w w' := by
    subst hw'
    exact ((((Below.refl _ _).alloc (Nat.le_refl _) _).alloc (by simp) _).alloc (by simp; omega) _).alloc (by simp; omega) _
  have bt : Blk w' w.heap.size 25 #[.slice (some ⟨tb, toff, none⟩) T.length tcap, .slice (some ⟨sb, soff, none⟩) S.length scap, v2, v3] := by
    subst hw'; exact (((blk_at rfl).alloc _).alloc _).alloc _
  have br : Blk w' (w.heap.size + 1) 23 #[.slice (some ⟨rb, roff, none⟩) rows.length rcap] := by
    subst hw'; exact ((blk_at (by simp)).alloc _).alloc _
  have bs : Blk w' (w.heap.size + 1 + 1) 27 #[.int .i64 slo, .int .i64 shi] := by
    subst hw'; exact (blk_at (by simp)).alloc _
  have bx : Blk w' (w.heap.size + 1 + 1 + 1) 27 #[.int .i64 xlo, .int .i64 xhi] := by
    subst hw'; exact blk_at (by simp)
  clear hw'
  have hq := corners_seq w.heap.size (w.heap.size + 1 + 1 + 1) (w.heap.size + 1 + 1) (w.heap.size + 1) tb toff tcap sb soff scap rb roff rcap v2 v3 T S rows slo shi xlo xhi h2 h3 hT hS hg hx hs w' (rT.below hb) (rS.below hb) (rG.below hb) bt bx bs br
  have hok : ∀ q ∈ cornersL T S rows slo shi xlo xhi, FracOk q := by
    intro q hq
    obtain ⟨x, s, h5, h6, rfl⟩ := mem_corners hq
    exact (val_ok hT.out hS.out hg.out (bends_within hx.out.1 hx.out.2 h5) (bends_within hs.out.1 hs.out.2 h6)).1
  refine ⟨_, rfl, hb, ?_⟩
  rcases hF with ⟨rfl, rfl⟩ | ⟨rfl, rfl⟩
  · exact callsIn_wide.1 (foremost_less _ _ _ (fun k => k < w'.heap.size) w' (enters_of Try.func84 (by kernel_rfl) rfl) hq (Lib.hid fun k h => h) (Lib.hid hok))
  · exact callsIn_wide.1 (foremost_more _ _ _ (fun k => k < w'.heap.size) w' (enters_of Try.func84 (by kernel_rfl) rfl) hq (Lib.hid fun k h => h) (Lib.hid hok))

set_option maxHeartbeats 4000000 in
set_option maxRecDepth 100000 in
theorem extremes_any (tb toff tcap sb soff scap rb roff rcap : Nat) (v2 v3 : Value) (T S : List Int) (rows : List (List Int)) (slo shi xlo xhi : Int) (h2 : ∃ A l c, v2 = .slice A l c) (h3 : ∃ A l c, v3 = .slice A l c)
    (hT : Hid (AxisOk T (-500) 1000)) (hS : Hid (AxisOk S 0 10000)) (hg : Hid (GridOk T S rows)) (hx : Hid (Within T xlo ∧ Within T xhi)) (hs : Hid (Within S slo ∧ Within S shi)) (w : World)
    (rT : Row w tb toff T) (rS : Row w sb soff S) (rG : Grid w rb roff rows) :
    Calls Try.prog 50 #[.agg #[.slice (some ⟨tb, toff, none⟩) T.length tcap, .slice (some ⟨sb, soff, none⟩) S.length scap, v2, v3], .slice (some ⟨rb, roff, none⟩) rows.length rcap, .agg #[.int .i64 slo, .int .i64 shi], .agg #[.int .i64 xlo, .int .i64 xhi]] w fun e w' =>
      e = .returned (.tuple #[.agg #[.int .i64 (lowF T S rows slo shi xlo xhi).1, .int .i64 (lowF T S rows slo shi xlo xhi).2], .agg #[.int .i64 (highF T S rows slo shi xlo xhi).1, .int .i64 (highF T S rows slo shi xlo xhi).2]]) ∧ Below w.heap.size w w' := by
  have hl := fun W hb => best_less tb toff tcap sb soff scap rb roff rcap v2 v3 T S rows slo shi xlo xhi h2 h3 hT hS hg hx hs W (rT.below hb) (rS.below hb) (rG.below hb) _ _ (.inl ⟨rfl, rfl⟩)
  have hh := fun W hb => best_less tb toff tcap sb soff scap rb roff rcap v2 v3 T S rows slo shi xlo xhi h2 h3 hT hS hg hx hs W (rT.below hb) (rS.below hb) (rG.below hb) _ _ (.inr ⟨rfl, rfl⟩)
  have hfin : ∀ p q : Int × Int, lowF T S rows slo shi xlo xhi = p → highF T S rows slo shi xlo xhi = q → Ending.returned (.tuple #[.agg #[.int .i64 p.1, .int .i64 p.2], .agg #[.int .i64 q.1, .int .i64 q.2]]) = .returned (.tuple #[.agg #[.int .i64 (lowF T S rows slo shi xlo xhi).1, .int .i64 (lowF T S rows slo shi xlo xhi).2], .agg #[.int .i64 (highF T S rows slo shi xlo xhi).1, .int .i64 (highF T S rows slo shi xlo xhi).2]]) := by rintro _ _ rfl rfl; rfl
  generalize hp : lowF T S rows slo shi xlo xhi = p at hl
  generalize hq : highF T S rows slo shi xlo xhi = q at hh
  replace hfin := Lib.hid (hfin p q hp hq)
  replace hl := Lib.hid hl
  replace hh := Lib.hid hh
  clear hp hq
  obtain ⟨p1, p2⟩ := p
  obtain ⟨q1, q2⟩ := q
  dsimp only at hl hh hfin
  obtain ⟨A2, l2, c2, rfl⟩ := h2
  obtain ⟨A3, l3, c3, rfl⟩ := h3
  go_enter Try.func50, Try.ntmps50
  go_wp2_with fail
  have hB0 : Below w.heap.size w (((((w.alloc (Obj.cells #[Value.slice (some ⟨tb, toff, none⟩) T.length tcap, Value.slice (some ⟨sb, soff, none⟩) S.length scap, Value.slice A2 l2 c2, Value.slice A3 l3 c3] 25)).alloc (Obj.cells #[Value.int IntKind.i64 slo, Value.int IntKind.i64 shi] 27)).alloc (Obj.cells #[Value.int IntKind.i64 xlo, Value.int IntKind.i64 xhi] 27)).alloc (Obj.cells #[Value.int IntKind.i64 0, Value.int IntKind.i64 0] 77)).alloc (Obj.cells #[Value.int IntKind.i64 0, Value.int IntKind.i64 0] 77)) := (((((Below.refl _ _).alloc (Nat.le_refl _) _).alloc (by simp) _).alloc (by simp; omega) _).alloc (by simp; omega) _).alloc (by simp; omega) _
  have b0 : Blk (((((w.alloc (Obj.cells #[Value.slice (some ⟨tb, toff, none⟩) T.length tcap, Value.slice (some ⟨sb, soff, none⟩) S.length scap, Value.slice A2 l2 c2, Value.slice A3 l3 c3] 25)).alloc (Obj.cells #[Value.int IntKind.i64 slo, Value.int IntKind.i64 shi] 27)).alloc (Obj.cells #[Value.int IntKind.i64 xlo, Value.int IntKind.i64 xhi] 27)).alloc (Obj.cells #[Value.int IntKind.i64 0, Value.int IntKind.i64 0] 77)).alloc (Obj.cells #[Value.int IntKind.i64 0, Value.int IntKind.i64 0] 77)) w.heap.size 25 #[Value.slice (some ⟨tb, toff, none⟩) T.length tcap, Value.slice (some ⟨sb, soff, none⟩) S.length scap, Value.slice A2 l2 c2, Value.slice A3 l3 c3] := ((((blk_at rfl).alloc _).alloc _).alloc _).alloc _
  have b1 : Blk (((((w.alloc (Obj.cells #[Value.slice (some ⟨tb, toff, none⟩) T.length tcap, Value.slice (some ⟨sb, soff, none⟩) S.length scap, Value.slice A2 l2 c2, Value.slice A3 l3 c3] 25)).alloc (Obj.cells #[Value.int IntKind.i64 slo, Value.int IntKind.i64 shi] 27)).alloc (Obj.cells #[Value.int IntKind.i64 xlo, Value.int IntKind.i64 xhi] 27)).alloc (Obj.cells #[Value.int IntKind.i64 0, Value.int IntKind.i64 0] 77)).alloc (Obj.cells #[Value.int IntKind.i64 0, Value.int IntKind.i64 0] 77)) (w.heap.size + 1) 27 #[.int .i64 slo, .int .i64 shi] := (((blk_at (by simp)).alloc _).alloc _).alloc _
  have b2 : Blk (((((w.alloc (Obj.cells #[Value.slice (some ⟨tb, toff, none⟩) T.length tcap, Value.slice (some ⟨sb, soff, none⟩) S.length scap, Value.slice A2 l2 c2, Value.slice A3 l3 c3] 25)).alloc (Obj.cells #[Value.int IntKind.i64 slo, Value.int IntKind.i64 shi] 27)).alloc (Obj.cells #[Value.int IntKind.i64 xlo, Value.int IntKind.i64 xhi] 27)).alloc (Obj.cells #[Value.int IntKind.i64 0, Value.int IntKind.i64 0] 77)).alloc (Obj.cells #[Value.int IntKind.i64 0, Value.int IntKind.i64 0] 77)) (w.heap.size + 1 + 1) 27 #[.int .i64 xlo, .int .i64 xhi] := ((blk_at (by simp)).alloc _).alloc _
  have b3 : Blk (((((w.alloc (Obj.cells #[Value.slice (some ⟨tb, toff, none⟩) T.length tcap, Value.slice (some ⟨sb, soff, none⟩) S.length scap, Value.slice A2 l2 c2, Value.slice A3 l3 c3] 25)).alloc (Obj.cells #[Value.int IntKind.i64 slo, Value.int IntKind.i64 shi] 27)).alloc (Obj.cells #[Value.int IntKind.i64 xlo, Value.int IntKind.i64 xhi] 27)).alloc (Obj.cells #[Value.int IntKind.i64 0, Value.int IntKind.i64 0] 77)).alloc (Obj.cells #[Value.int IntKind.i64 0, Value.int IntKind.i64 0] 77)) (w.heap.size + 1 + 1 + 1) 77 #[.int .i64 0, .int .i64 0] := (blk_at (by simp)).alloc _
  have b4 : Blk (((((w.alloc (Obj.cells #[Value.slice (some ⟨tb, toff, none⟩) T.length tcap, Value.slice (some ⟨sb, soff, none⟩) S.length scap, Value.slice A2 l2 c2, Value.slice A3 l3 c3] 25)).alloc (Obj.cells #[Value.int IntKind.i64 slo, Value.int IntKind.i64 shi] 27)).alloc (Obj.cells #[Value.int IntKind.i64 xlo, Value.int IntKind.i64 xhi] 27)).alloc (Obj.cells #[Value.int IntKind.i64 0, Value.int IntKind.i64 0] 77)).alloc (Obj.cells #[Value.int IntKind.i64 0, Value.int IntKind.i64 0] 77)) (w.heap.size + 1 + 1 + 1 + 1) 77 #[.int .i64 0, .int .i64 0] := blk_at (by simp)
  generalize (((((w.alloc (Obj.cells #[Value.slice (some ⟨tb, toff, none⟩) T.length tcap, Value.slice (some ⟨sb, soff, none⟩) S.length scap, Value.slice A2 l2 c2, Value.slice A3 l3 c3] 25)).alloc (Obj.cells #[Value.int IntKind.i64 slo, Value.int IntKind.i64 shi] 27)).alloc (Obj.cells #[Value.int IntKind.i64 xlo, Value.int IntKind.i64 xhi] 27)).alloc (Obj.cells #[Value.int IntKind.i64 0, Value.int IntKind.i64 0] 77)).alloc (Obj.cells #[Value.int IntKind.i64 0, Value.int IntKind.i64 0] 77)) = W0 at hB0 b0 b1 b2 b3 b4 ⊢
  refine (hl.out W0 hB0).mono ?_
  rintro e W1 ⟨v1, rfl, hb1, hc1⟩
  replace hc1 := Lib.hid hc1
  go_wp2_with fail
  refine hc1.out.mono ?_
  rintro e W2 ⟨rfl, hb2⟩
  clear hc1
  have hb02 : Below W0.heap.size W0 W2 := hb1.trans (hb2.mono hb1.size)
  obtain ⟨x0, x1, x2, x3⟩ := (b3.below hb02 b3.lt).facts2
  obtain ⟨y0, y1, y2, y3, _, _, _, _⟩ := (b0.below hb02 b0.lt).facts4
  obtain ⟨z0, z1, _, _⟩ := (b1.below hb02 b1.lt).facts2
  obtain ⟨u0, u1, _, _⟩ := (b2.below hb02 b2.lt).facts2
  go_wp2_with fail
  have c3 : Blk ((W2.setCell ⟨w.heap.size + 1 + 1 + 1, 0, none⟩ (.int .i64 p1)).setCell ⟨w.heap.size + 1 + 1 + 1, 1, none⟩ (.int .i64 p2)) (w.heap.size + 1 + 1 + 1) 77 #[.int .i64 p1, .int .i64 p2] := ((b3.below hb02 b3.lt).set_ 0 _).set_ 1 _
  have c4 : Blk ((W2.setCell ⟨w.heap.size + 1 + 1 + 1, 0, none⟩ (.int .i64 p1)).setCell ⟨w.heap.size + 1 + 1 + 1, 1, none⟩ (.int .i64 p2)) (w.heap.size + 1 + 1 + 1 + 1) 77 #[.int .i64 0, .int .i64 0] := ((b4.below hb02 b4.lt).far (by simp only; omega) _).far (by simp only; omega) _
  have hB3 : Below w.heap.size w ((W2.setCell ⟨w.heap.size + 1 + 1 + 1, 0, none⟩ (.int .i64 p1)).setCell ⟨w.heap.size + 1 + 1 + 1, 1, none⟩ (.int .i64 p2)) := ((hB0.trans (hb02.mono hB0.size)).setCell (by simp only; omega) _).setCell (by simp only; omega) _
  clear x0 x1 x2 x3 y0 y1 y2 y3 z0 z1 u0 u1 hb02 hb2 hb1 b0 b1 b2 b3 b4 hB0
  generalize ((W2.setCell ⟨w.heap.size + 1 + 1 + 1, 0, none⟩ (.int .i64 p1)).setCell ⟨w.heap.size + 1 + 1 + 1, 1, none⟩ (.int .i64 p2)) = W3 at c3 c4 hB3 ⊢
  refine (hh.out W3 hB3).mono ?_
  rintro e W4 ⟨v2, rfl, hb4, hc4⟩
  replace hc4 := Lib.hid hc4
  go_wp2_with fail
  refine hc4.out.mono ?_
  rintro e W5 ⟨rfl, hb5⟩
  clear hc4
  have hb35 : Below W3.heap.size W3 W5 := hb4.trans (hb5.mono hb4.size)
  obtain ⟨x0, x1, x2, x3⟩ := (c4.below hb35 c4.lt).facts2
  go_wp2_with fail
  have d3 : Blk ((W5.setCell ⟨w.heap.size + 1 + 1 + 1 + 1, 0, none⟩ (.int .i64 q1)).setCell ⟨w.heap.size + 1 + 1 + 1 + 1, 1, none⟩ (.int .i64 q2)) (w.heap.size + 1 + 1 + 1) 77 #[.int .i64 p1, .int .i64 p2] := ((c3.below hb35 c3.lt).far (by simp only; omega) _).far (by simp only; omega) _
  have d4 : Blk ((W5.setCell ⟨w.heap.size + 1 + 1 + 1 + 1, 0, none⟩ (.int .i64 q1)).setCell ⟨w.heap.size + 1 + 1 + 1 + 1, 1, none⟩ (.int .i64 q2)) (w.heap.size + 1 + 1 + 1 + 1) 77 #[.int .i64 q1, .int .i64 q2] := ((c4.below hb35 c4.lt).set_ 0 _).set_ 1 _
  have hB6 : Below w.heap.size w ((W5.setCell ⟨w.heap.size + 1 + 1 + 1 + 1, 0, none⟩ (.int .i64 q1)).setCell ⟨w.heap.size + 1 + 1 + 1 + 1, 1, none⟩ (.int .i64 q2)) := ((hB3.trans (hb35.mono hB3.size)).setCell (by simp only; omega) _).setCell (by simp only; omega) _
  clear x0 x1 x2 x3 hb35 hb5 hb4 c3 c4 hB3
  generalize ((W5.setCell ⟨w.heap.size + 1 + 1 + 1 + 1, 0, none⟩ (.int .i64 q1)).setCell ⟨w.heap.size + 1 + 1 + 1 + 1, 1, none⟩ (.int .i64 q2)) = W6 at d3 d4 hB6 ⊢
  obtain ⟨x0, x1, x2, x3⟩ := d3.facts2
  obtain ⟨y0, y1, y2, y3⟩ := d4.facts2
  go_region
  go_wp2
  have e3 : Blk (((((W6.setCell ⟨w.heap.size + 1 + 1 + 1, 0, none⟩ (.int .i64 p1)).setCell ⟨w.heap.size + 1 + 1 + 1, 1, none⟩ (.int .i64 p2)).setCell ⟨w.heap.size + 1 + 1 + 1 + 1, 0, none⟩ (.int .i64 q1)).setCell ⟨w.heap.size + 1 + 1 + 1 + 1, 1, none⟩ (.int .i64 q2)).drew) (w.heap.size + 1 + 1 + 1) 77 #[.int .i64 p1, .int .i64 p2] := ((((d3.set_ 0 _).set_ 1 _).far (by simp only; omega) _).far (by simp only; omega) _).drew
  have e4 : Blk (((((W6.setCell ⟨w.heap.size + 1 + 1 + 1, 0, none⟩ (.int .i64 p1)).setCell ⟨w.heap.size + 1 + 1 + 1, 1, none⟩ (.int .i64 p2)).setCell ⟨w.heap.size + 1 + 1 + 1 + 1, 0, none⟩ (.int .i64 q1)).setCell ⟨w.heap.size + 1 + 1 + 1 + 1, 1, none⟩ (.int .i64 q2)).drew) (w.heap.size + 1 + 1 + 1 + 1) 77 #[.int .i64 q1, .int .i64 q2] := ((((d4.far (p := ⟨w.heap.size + 1 + 1 + 1, 0, none⟩) (by simp only; omega) _).far (p := ⟨w.heap.size + 1 + 1 + 1, 1, none⟩) (by simp only; omega) _).set_ 0 _).set_ 1 _).drew
  obtain ⟨k0, k1, _, _⟩ := e3.facts2
  obtain ⟨k2, k3, _, _⟩ := e4.facts2
  refine bodyPost_ret (v := .tuple #[.agg #[.int .i64 p1, .int .i64 p2], .agg #[.int .i64 q1, .int .i64 q2]]) (by simp [results, Try.results50, go_sem, k0, k1, k2, k3]) rfl ⟨(by first | rfl | exact hfin.out), ?_⟩
  exact ((((hB6.setCell (by simp only; omega) _).setCell (by simp only; omega) _).setCell (by simp only; omega) _).setCell (by simp only; omega) _).drew
end Go.Proofs.Ytcghafdemklnnaa
