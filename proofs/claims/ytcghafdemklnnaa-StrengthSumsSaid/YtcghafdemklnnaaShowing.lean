/- The strength that shows a number at a temperature. -/
import Derived.Test.YtcghafdemklnnaaExtremes
import Derived.Test.YtcghafdemklnnaaFits
import Derived.BigRegion
import Derived.Deep.DeepCutAuto
namespace Go.Proofs.Ytcghafdemklnnaa
open Go.RowKit Go.Sort Go.Shelf
attribute [local go_sem] Oper.calm Oper.calmAt Oper.calmUpon

set_option maxHeartbeats 2000000 in
set_option maxRecDepth 100000 in
theorem at_any (Bp Bu Bl ub uoff ucap lb loff lcap : Nat) (U L : List Int) (r u v : Int) (i : Nat) (k y : Int) (w : World) (hm : L.length = U.length)
    (hk : Hid (k = (i : Int))) (hk0 : 0 ≤ k) (hi : k < U.length) (hu : 0 ≤ u ∧ u ≤ 1500) (hv : 0 ≤ v ∧ v ≤ 1500) (hbU : Hid (∀ j : Nat, -20000 ≤ U[j]?.getD 0 ∧ U[j]?.getD 0 ≤ 20000)) (hbL : Hid (∀ j : Nat, -20000 ≤ L[j]?.getD 0 ∧ L[j]?.getD 0 ≤ 20000))
    (bp : Blk w Bp 114 #[.int .i64 r, .int .i64 u, .int .i64 v]) (bu : Blk w Bu 22 #[.slice (some ⟨ub, uoff, none⟩) U.length ucap]) (bl : Blk w Bl 22 #[.slice (some ⟨lb, loff, none⟩) U.length lcap])
    (rU : Row w ub uoff U) (rL : Row w lb loff L) (hy : Hid (y = v * U[i]?.getD 0 + u * L[i]?.getD 0)) :
    Calls Try.prog 88 #[.int .i64 k, .pointer (some ⟨Bp, 0, none⟩), .pointer (some ⟨Bu, 0, none⟩), .pointer (some ⟨Bl, 0, none⟩)] w fun e w' => e = .returned (.int .i64 y) ∧ Below w.heap.size w w' := by
  have a1 := hbU.out i
  have a2 := hbL.out i
  have ckU : w.cell? ⟨ub, uoff + k.toNat, none⟩ = some (.int .i64 (U[i]?.getD 0)) := by
    rw [show k.toNat = i by have := hk.out; omega]; exact rU.2 i (by have := hk.out; omega)
  have ckL : w.cell? ⟨lb, loff + k.toNat, none⟩ = some (.int .i64 (L[i]?.getD 0)) := by
    rw [show k.toNat = i by have := hk.out; omega]; exact rL.2 i (by have := hk.out; omega)
  generalize U[i]?.getD 0 = a at a1 ckU hy
  generalize L[i]?.getD 0 = b at a2 ckL hy
  obtain ⟨u0, u1⟩ := hu
  obtain ⟨v0, v1⟩ := hv
  obtain ⟨m1, m1'⟩ := mul_in v0 v1 a1.1 a1.2 (by omega)
  obtain ⟨m2, m2'⟩ := mul_in u0 u1 a2.1 a2.2 (by omega)
  simp only [Int.reduceMul, Int.reduceNeg] at m1 m1' m2 m2'
  clear rU rL hbU hbL hm
  obtain ⟨p0, p1, p2, _, _, _⟩ := bp.facts3
  obtain ⟨q0, _⟩ := bu.facts1
  obtain ⟨s0, _⟩ := bl.facts1
  have p0' := fun d os => cell_regrown p0 d os
  have p1' := fun d os => cell_regrown p1 d os
  have p2' := fun d os => cell_regrown p2 d os
  have q0' := fun d os => cell_regrown q0 d os
  have s0' := fun d os => cell_regrown s0 d os
  have ckU' := fun d os => cell_regrown ckU d os
  have ckL' := fun d os => cell_regrown ckL d os
  go_enter Try.func88, Try.ntmps88
  go_wp2
  refine wp_region_quiet_below (by kernel_rfl) (by kernel_rfl) ?_
  repeat (quiet_step (exact quiet_call (fun W1 _ => between_any _ _ _ _ _ W1 (by omega) (by omega) (by omega) (by omega))))
  refine wpQuiet_nil ?_
  intro _ hw'
  obtain ⟨⟨dq, osq⟩, hw''⟩ := hw'
  subst hw''
  go_wp2
  go_ret
  exact ⟨ret_int (by rw [hy.out]), below_regrown w dq osq⟩

/-- what is shown at the k-th strength, times the width -/
def atF (T : List Int) (Sh : List (List Int)) (temp : Int) (k : Nat) : Int := (T[plcOf T temp + 1]?.getD 0 - temp) * cellAt Sh (plcOf T temp) k + (temp - T[plcOf T temp]?.getD 0) * cellAt Sh (plcOf T temp + 1) k
def wideF (T : List Int) (temp : Int) : Int := (temp - T[plcOf T temp]?.getD 0) + (T[plcOf T temp + 1]?.getD 0 - temp)
def goalF (T S : List Int) (Sh : List (List Int)) (x temp : Int) : Int := min (max (min (max x (-10000)) 20000 * wideF T temp) (atF T Sh temp 0)) (atF T Sh temp (S.length - 1))
def idxF (T S : List Int) (Sh : List (List Int)) (x temp : Int) : Nat := plc (fun k => atF T Sh temp k) (S.length - 2) (goalF T S Sh x temp)
def showNum (T S : List Int) (Sh : List (List Int)) (x temp : Int) : Int :=
  (atF T Sh temp (idxF T S Sh x temp + 1) - goalF T S Sh x temp) * S[idxF T S Sh x temp]?.getD 0 + (goalF T S Sh x temp - atF T Sh temp (idxF T S Sh x temp)) * S[idxF T S Sh x temp + 1]?.getD 0
def showDen (T S : List Int) (Sh : List (List Int)) (x temp : Int) : Int :=
  (goalF T S Sh x temp - atF T Sh temp (idxF T S Sh x temp)) + (atF T Sh temp (idxF T S Sh x temp + 1) - goalF T S Sh x temp)

structure ShowOk (T S : List Int) (Sh : List (List Int)) : Prop where
  len : Sh.length = T.length
  row : ∀ i, i < Sh.length → (Sh[i]?.getD []).length = S.length
  bd : ∀ i j, -20000 ≤ cellAt Sh i j ∧ cellAt Sh i j ≤ 20000
  rise : ∀ i, i < Sh.length → Rising (Sh[i]?.getD [])

theorem atF_rise {T S : List Int} {Sh : List (List Int)} {temp : Int} (hT : AxisOk T (-500) 1000) (hg : ShowOk T S Sh) (hx : Within T temp) {a b : Nat} (hab : a < b) (hb : b < S.length) : atF T Sh temp a < atF T Sh temp b := by
  obtain ⟨p1, p2, p3, p4, p5, p6⟩ := plcOf_bd hT hx
  have hl := plcOf_lt hT.two temp
  have hlen := hg.len
  have r1 : cellAt Sh (plcOf T temp) a < cellAt Sh (plcOf T temp) b := hg.rise (plcOf T temp) (by omega) a b hab (by rw [hg.row _ (by omega)]; exact hb)
  have r2 : cellAt Sh (plcOf T temp + 1) a < cellAt Sh (plcOf T temp + 1) b := hg.rise (plcOf T temp + 1) (by omega) a b hab (by rw [hg.row _ (by omega)]; exact hb)
  unfold atF
  generalize temp - T[plcOf T temp]?.getD 0 = u at *
  generalize T[plcOf T temp + 1]?.getD 0 - temp = v at *
  generalize cellAt Sh (plcOf T temp) a = x1 at *
  generalize cellAt Sh (plcOf T temp) b = x2 at *
  generalize cellAt Sh (plcOf T temp + 1) a = y1 at *
  generalize cellAt Sh (plcOf T temp + 1) b = y2 at *
  have e1 : v * (x1 + 1) ≤ v * x2 := Int.mul_le_mul_of_nonneg_left (by omega) p3
  have e2 : u * (y1 + 1) ≤ u * y2 := Int.mul_le_mul_of_nonneg_left (by omega) p1
  rw [Int.mul_add] at e1 e2
  omega
theorem atF_bd {T S : List Int} {Sh : List (List Int)} {temp : Int} (hT : AxisOk T (-500) 1000) (hg : ShowOk T S Sh) (hx : Within T temp) (k : Nat) : -60000000 ≤ atF T Sh temp k ∧ atF T Sh temp k ≤ 60000000 := by
  obtain ⟨p1, p2, p3, p4, p5, p6⟩ := plcOf_bd hT hx
  have b1 := hg.bd (plcOf T temp) k
  have b2 := hg.bd (plcOf T temp + 1) k
  unfold atF
  obtain ⟨m1, m1'⟩ := mul_in p3 p4 b1.1 b1.2 (by omega)
  obtain ⟨m2, m2'⟩ := mul_in p1 p2 b2.1 b2.2 (by omega)
  simp only [Int.reduceMul, Int.reduceNeg, Int.reduceSub] at m1 m1' m2 m2'
  omega
theorem show_facts {T S : List Int} {Sh : List (List Int)} {temp : Int} (hT : AxisOk T (-500) 1000) (hS : AxisOk S 0 10000) (hg : ShowOk T S Sh) (hx : Within T temp) (x : Int) :
    idxF T S Sh x temp + 1 < S.length ∧ atF T Sh temp (idxF T S Sh x temp) ≤ goalF T S Sh x temp ∧ goalF T S Sh x temp ≤ atF T Sh temp (idxF T S Sh x temp + 1) ∧ atF T Sh temp (idxF T S Sh x temp) < atF T Sh temp (idxF T S Sh x temp + 1) ∧ -60000000 ≤ goalF T S Sh x temp ∧ goalF T S Sh x temp ≤ 60000000 := by
  obtain ⟨h1, h2, h3⟩ := plc_spec (fun k => atF T Sh temp k) (S.length - 2) (goalF T S Sh x temp)
  have h2l := hS.two
  have hlt : idxF T S Sh x temp + 1 < S.length := by unfold idxF; omega
  have b0 := atF_bd hT hg hx 0
  have bl := atF_bd hT hg hx (S.length - 1)
  have h0l : atF T Sh temp 0 < atF T Sh temp (S.length - 1) := atF_rise hT hg hx (by omega) (by omega)
  have g1 : atF T Sh temp 0 ≤ goalF T S Sh x temp := by unfold goalF; omega
  have g2 : goalF T S Sh x temp ≤ atF T Sh temp (S.length - 1) := by unfold goalF; omega
  refine ⟨hlt, ?_, ?_, atF_rise hT hg hx (Nat.lt_succ_self _) hlt, by omega, by omega⟩
  · rcases Nat.eq_zero_or_pos (idxF T S Sh x temp) with e | e
    · rw [e]; exact g1
    · have := h2 (idxF T S Sh x temp - 1) (by unfold idxF at e ⊢; omega)
      rwa [show idxF T S Sh x temp - 1 + 1 = idxF T S Sh x temp by omega] at this
  · rcases Nat.lt_or_ge (idxF T S Sh x temp) (S.length - 2) with e | e
    · exact Int.le_of_lt (h3 e)
    · rw [show idxF T S Sh x temp + 1 = S.length - 1 by omega]; exact g2

set_option maxHeartbeats 8000000 in
set_option maxRecDepth 100000 in
theorem showingAt_any (tb toff tcap sb soff scap rb roff rcap : Nat) (v3 : Value) (T S : List Int) (Sh : List (List Int)) (x temp : Int) (w : World) (h3 : ∃ A l c, v3 = .slice A l c)
    (hT : Hid (AxisOk T (-500) 1000)) (hS : Hid (AxisOk S 0 10000)) (hg : Hid (ShowOk T S Sh)) (hx : Hid (Within T temp)) (rT : Row w tb toff T) (rS : Row w sb soff S) (rG : Grid w rb roff Sh) :
    Calls Try.prog 81 #[.agg #[.slice (some ⟨tb, toff, none⟩) T.length tcap, .slice (some ⟨sb, soff, none⟩) S.length scap, .slice (some ⟨rb, roff, none⟩) Sh.length rcap, v3], .int .i64 x, .int .i64 temp] w fun e w' =>
      e = .returned (.agg #[.int .i64 (showNum T S Sh x temp), .int .i64 (showDen T S Sh x temp)]) ∧ Below w.heap.size w w' := by
  obtain ⟨A3, l3, c3, rfl⟩ := h3
  have hlT := plcOf_lt hT.out.two temp
  obtain ⟨p1, p2, p3, p4, p5, p6⟩ := plcOf_bd hT.out hx.out
  obtain ⟨f1, f2, f3, f4, f5, f6⟩ := show_facts hT.out hS.out hg.out hx.out x
  have hgl := hg.out.len
  have hTm := hT.out.most
  have hSm := hS.out.most
  have hS2 := hS.out.two
  obtain ⟨ub, uoff, ucap, uc, ur⟩ := rG.2 (plcOf T temp) (by omega)
  obtain ⟨lb, loff, lcap, lc, lr⟩ := rG.2 (plcOf T temp + 1) (by omega)
  have hrl0 := hg.out.row (plcOf T temp) (by omega)
  have hrl1 := hg.out.row (plcOf T temp + 1) (by omega)
  rw [hrl0] at uc
  rw [hrl1] at lc
  have cS0 := rS.2 (idxF T S Sh x temp) (by omega)
  have cS1 := rS.2 (idxF T S Sh x temp + 1) (by omega)
  have bS0 := hS.out.bd (idxF T S Sh x temp) (by omega)
  have bS1 := hS.out.bd (idxF T S Sh x temp + 1) (by omega)
  have findT : Hid (∀ W, Below w.heap.size w W → Calls Try.prog 87 #[.slice (some ⟨tb, toff, none⟩) T.length tcap, .int .i64 temp] W fun e w' => e = .returned (.agg #[.int .i64 (plcOf T temp), .int .i64 (temp - T[plcOf T temp]?.getD 0), .int .i64 (T[plcOf T temp + 1]?.getD 0 - temp)]) ∧ Below W.heap.size W w') :=
    Lib.hid fun W hW => find_any tb toff tcap T temp W hT.out.two (by omega) (rT.below hW) (Lib.hid hT.out.rise) (Lib.hid fun j => by have := hT.out.all (by omega) (by omega) j; omega) (by have := hT.out.bd 0 (by have := hT.out.two; omega); have := hx.out.1; omega) (by have := hT.out.bd (T.length - 1) (by have := hT.out.two; omega); have := hx.out.2; omega)
  have hat : Hid (∀ (g0 g1 g2 : Nat) (i : Nat) (k : Int) (W : World), Below w.heap.size w W → Hid (k = (i : Int)) → 0 ≤ k → k < S.length →
      Blk W g0 114 #[.int .i64 (plcOf T temp), .int .i64 (temp - T[plcOf T temp]?.getD 0), .int .i64 (T[plcOf T temp + 1]?.getD 0 - temp)] → Blk W g1 22 #[.slice (some ⟨ub, uoff, none⟩) S.length ucap] → Blk W g2 22 #[.slice (some ⟨lb, loff, none⟩) S.length lcap] →
      Calls Try.prog 88 #[.int .i64 k, .pointer (some ⟨g0, 0, none⟩), .pointer (some ⟨g1, 0, none⟩), .pointer (some ⟨g2, 0, none⟩)] W fun e w' => e = .returned (.int .i64 (atF T Sh temp i)) ∧ Below W.heap.size W w') :=
    Lib.hid fun g0 g1 g2 i k W hW hk hk0 hki b0 b1 b2 => at_any g0 g1 g2 ub uoff ucap lb loff lcap (Sh[plcOf T temp]?.getD []) (Sh[plcOf T temp + 1]?.getD []) _ _ _ i k _ W (by omega) hk hk0 (by omega) ⟨p1, p2⟩ ⟨p3, p4⟩ (Lib.hid fun j => hg.out.bd (plcOf T temp) j) (Lib.hid fun j => hg.out.bd (plcOf T temp + 1) j) b0 (by rw [hrl0]; exact b1) (by rw [hrl0]; exact b2) (ur.below hW) (lr.below hW) (Lib.hid rfl)
  have hmono : Hid (∀ a b, a ≤ b → b < S.length - 2 → atF T Sh temp (a + 1) ≤ atF T Sh temp (b + 1)) := Lib.hid fun a b hab hb => by
    rcases Nat.lt_or_ge a b with h | h
    · exact Int.le_of_lt (atF_rise hT.out hg.out hx.out (by omega) (by omega))
    · have : a = b := by omega
      subst this; exact Int.le_refl _
  have ba0 := atF_bd hT.out hg.out hx.out 0
  have bal := atF_bd hT.out hg.out hx.out (S.length - 1)
  have bai := atF_bd hT.out hg.out hx.out (idxF T S Sh x temp)
  have bai1 := atF_bd hT.out hg.out hx.out (idxF T S Sh x temp + 1)
  clear rT rS ur lr hT hS hg hx hrl0 hrl1 rG
  have hfin : Hid (∀ u v s0 s1 : Int, temp - T[plcOf T temp]?.getD 0 = u → T[plcOf T temp + 1]?.getD 0 - temp = v → S[idxF T S Sh x temp]?.getD 0 = s0 → S[idxF T S Sh x temp + 1]?.getD 0 = s1 →
      (min (max (min (max x (-10000)) 20000 * (u + v)) (atF T Sh temp 0)) (atF T Sh temp (S.length - 1)) = goalF T S Sh x temp) ∧
      Ending.returned (.agg #[.int .i64 ((atF T Sh temp (idxF T S Sh x temp + 1) - goalF T S Sh x temp) * s0 + (goalF T S Sh x temp - atF T Sh temp (idxF T S Sh x temp)) * s1), .int .i64 ((goalF T S Sh x temp - atF T Sh temp (idxF T S Sh x temp)) + (atF T Sh temp (idxF T S Sh x temp + 1) - goalF T S Sh x temp))]) =
        .returned (.agg #[.int .i64 (showNum T S Sh x temp), .int .i64 (showDen T S Sh x temp)])) :=
    Lib.hid (by rintro u v s0 s1 rfl rfl rfl rfl; exact ⟨rfl, rfl⟩)
  have hidx : Hid (plc (fun k => atF T Sh temp k) (S.length - 2) (goalF T S Sh x temp) = idxF T S Sh x temp) := Lib.hid rfl
  generalize hs0 : S[idxF T S Sh x temp]?.getD 0 = s0 at cS0 bS0
  generalize hs1 : S[idxF T S Sh x temp + 1]?.getD 0 = s1 at cS1 bS1
  generalize hu : temp - T[plcOf T temp]?.getD 0 = u at p1 p2 p5 p6 findT hat
  generalize hv : T[plcOf T temp + 1]?.getD 0 - temp = v at p3 p4 p5 p6 findT hat
  replace hfin := Lib.hid (hfin.out u v s0 s1 hu hv hs0 hs1)
  clear hu hv hs0 hs1
  generalize plcOf T temp = r at hlT uc lc findT hat
  have hrS : r + 1 < Sh.length := by omega
  replace hgl := Lib.hid hgl
  generalize hi : idxF T S Sh x temp = i at *
  clear hi
  generalize hgo : goalF T S Sh x temp = g at *
  clear hgo
  go_enter Try.func81, Try.ntmps81
  go_wp2_with fail
  have hB0 : Below w.heap.size w ((w.alloc (Obj.cells #[Value.slice (some ⟨tb, toff, none⟩) T.length tcap, Value.slice (some ⟨sb, soff, none⟩) S.length scap, Value.slice (some ⟨rb, roff, none⟩) Sh.length rcap, Value.slice A3 l3 c3] 25)).alloc (Obj.cells #[Value.int IntKind.i64 0, Value.int IntKind.i64 0] 77)) := ((Below.refl _ _).alloc (Nat.le_refl _) _).alloc (by simp) _
  have b0 : Blk ((w.alloc (Obj.cells #[Value.slice (some ⟨tb, toff, none⟩) T.length tcap, Value.slice (some ⟨sb, soff, none⟩) S.length scap, Value.slice (some ⟨rb, roff, none⟩) Sh.length rcap, Value.slice A3 l3 c3] 25)).alloc (Obj.cells #[Value.int IntKind.i64 0, Value.int IntKind.i64 0] 77)) w.heap.size 25 #[Value.slice (some ⟨tb, toff, none⟩) T.length tcap, Value.slice (some ⟨sb, soff, none⟩) S.length scap, Value.slice (some ⟨rb, roff, none⟩) Sh.length rcap, Value.slice A3 l3 c3] := (blk_at rfl).alloc _
  have bR : Blk ((w.alloc (Obj.cells #[Value.slice (some ⟨tb, toff, none⟩) T.length tcap, Value.slice (some ⟨sb, soff, none⟩) S.length scap, Value.slice (some ⟨rb, roff, none⟩) Sh.length rcap, Value.slice A3 l3 c3] 25)).alloc (Obj.cells #[Value.int IntKind.i64 0, Value.int IntKind.i64 0] 77)) (w.heap.size + 1) 77 #[Value.int IntKind.i64 0, Value.int IntKind.i64 0] := blk_at (by simp)
  generalize ((w.alloc (Obj.cells #[Value.slice (some ⟨tb, toff, none⟩) T.length tcap, Value.slice (some ⟨sb, soff, none⟩) S.length scap, Value.slice (some ⟨rb, roff, none⟩) Sh.length rcap, Value.slice A3 l3 c3] 25)).alloc (Obj.cells #[Value.int IntKind.i64 0, Value.int IntKind.i64 0] 77)) = W0 at hB0 b0 bR ⊢
  refine (findT.out W0 hB0).mono ?_
  rintro e W1 ⟨rfl, hb1⟩
  have hB1 := hB0.trans (hb1.mono hB0.size)
  have b1 := b0.below hb1 b0.lt
  have bR1 := bR.below hb1 bR.lt
  clear findT b0 bR hb1 hB0
  obtain ⟨x0, x1, x2, x3, _, _, _, _⟩ := b1.facts4
  go_upto_region 2 with fail
  have hB2 : Below w.heap.size w (W1.alloc (Obj.cells #[Value.int IntKind.i64 r, Value.int IntKind.i64 u, Value.int IntKind.i64 v] 114)) := hB1.alloc hB1.size _
  have bP2 : Blk (W1.alloc (Obj.cells #[Value.int IntKind.i64 r, Value.int IntKind.i64 u, Value.int IntKind.i64 v] 114)) W1.heap.size 114 #[Value.int IntKind.i64 r, Value.int IntKind.i64 u, Value.int IntKind.i64 v] := Blk.new _ _ _
  have b2 := b1.alloc (Obj.cells #[Value.int IntKind.i64 r, Value.int IntKind.i64 u, Value.int IntKind.i64 v] 114)
  have bR2 := bR1.alloc (Obj.cells #[Value.int IntKind.i64 r, Value.int IntKind.i64 u, Value.int IntKind.i64 v] 114)
  have hgp : w.heap.size + 1 < W1.heap.size := bR1.lt
  clear x0 x1 x2 x3 b1 bR1 hB1
  generalize (W1.alloc (Obj.cells #[Value.int IntKind.i64 r, Value.int IntKind.i64 u, Value.int IntKind.i64 v] 114)) = W2 at hB2 bP2 b2 bR2 ⊢
  generalize W1.heap.size = g0 at *
  obtain ⟨x0, x1, x2, x3, _, _, _, _⟩ := b2.facts4
  obtain ⟨y0, y1, y2, _, _, _⟩ := bP2.facts3
  have x2' := fun d os => cell_regrown x2 d os
  have y0' := fun d os => cell_regrown y0 d os
  have uc' := fun d os => cell_regrown (cell_later hB2 uc) d os
  have lc' := fun d os => cell_regrown (cell_later hB2 lc) d os
  have hi1 : (r : Int) < Sh.length := by omega
  have hi2 : (r : Int) + 1 < Sh.length := by omega
  have hi3 : 0 ≤ (r : Int) + 1 := by omega
  have hi4 : ((r : Int) + 1).toNat = r + 1 := by omega
  have hi5 : IntKind.i64.wrap ((r : Int) + 1) = (r : Int) + 1 := IntWalk.i64_in _ (by omega)
  clear x2' y0' uc' lc'
  have lt1 := bP2.lt
  have lt2 := b2.lt
  have lt3 : rb < W2.heap.size := block_lt_of_cell (cell_later hB2 uc)
  have uc2 := cell_later hB2 uc
  have lc2 := cell_later hB2 lc
  have hcut' : Hid (∀ W3 : World, Below W2.heap.size W2 W3 → True) := Lib.hid fun _ _ => trivial
  go_cut [8, 9] (fun s8 s9 wx => ∃ g1 g2 : Nat, s8 = .pointer (some ⟨g1, 0, none⟩) ∧ s9 = .pointer (some ⟨g2, 0, none⟩) ∧ Blk wx g1 22 #[.slice (some ⟨ub, uoff, none⟩) S.length ucap] ∧ Blk wx g2 22 #[.slice (some ⟨lb, loff, none⟩) S.length lcap] ∧ Below W2.heap.size W2 wx)
  case first =>
    go_region
    all_goals (go_wp2_with fail)
    all_goals go_meet
    all_goals (first
      | exact ⟨W2.heap.size, W2.heap.size + 1, rfl, rfl, ((Blk.new _ _ _).alloc _).drew, (blk_at (by simp)).drew, (((Below.refl _ _).alloc (Nat.le_refl _) _).alloc (by simp) _).drew⟩
      | exact ⟨W2.heap.size + 1, W2.heap.size, rfl, rfl, (blk_at (by simp)).drew, ((Blk.new _ _ _).alloc _).drew, (((Below.refl _ _).alloc (Nat.le_refl _) _).alloc (by simp) _).drew⟩)
  case rest =>
    obtain ⟨g1, g2, rfl, rfl, k1, k2, hb3⟩ := hcut
    have hB3 := hB2.trans (hb3.mono hB2.size)
    have b3 := b2.below hb3 b2.lt
    have bP3 := bP2.below hb3 bP2.lt
    have bR3 := bR2.below hb3 bR2.lt
    clear x0 x1 x2 x3 y0 y1 y2 uc lc uc2 lc2 hi1 hi2 hi3 hi4 hi5 b2 bP2 bR2 lt1 lt2 lt3 hb3 hB2
    obtain ⟨x0, x1, x2, x3, _, _, _, _⟩ := b3.facts4
    obtain ⟨y0, y1, y2, _, _, _⟩ := bP3.facts3
    have e1 : ((S.length : Int) - 1).toNat = S.length - 1 := by omega
    have e2 : 1 ≤ (S.length : Int) := by omega
    have hwd := Lib.hid (width_any r u v)
    obtain ⟨xc, hxc⟩ : ∃ xc, min (max x (-10000)) 20000 = xc := ⟨_, rfl⟩
    rw [hxc] at hfin
    have bx1 : -10000 ≤ xc := by omega
    have bx2 : xc ≤ 20000 := by omega
    obtain ⟨m1, m1'⟩ := mul_in (Int.le_of_lt p5) p6 (b := xc) (B := 20000) (by omega) bx2 (by omega)
    simp only [Int.reduceMul, Int.reduceNeg, Int.reduceSub] at m1 m1'
    rw [Int.mul_comm (u + v) xc] at m1 m1'
    go_upto_region 5 with fail
    go_cut [1] (fun s1 wx => s1 = .int .i64 xc ∧ wx = wc)
    case first =>
      replace hxc := Lib.hid hxc
      go_wp2_with fail
      all_goals go_meet
      all_goals (refine ⟨?_, rfl⟩; have hxc := hxc.out; congr 1; omega)
    case rest =>
      obtain ⟨rfl, rfl⟩ := hcut
      clear hxc
      have hm : IntKind.i64.wrap (xc * (u + v)) = xc * (u + v) := IntWalk.i64_in _ (by omega)
      go_upto_region 6 with fail
      obtain ⟨V3, hV3⟩ : ∃ V, V = wc := ⟨_, rfl⟩
      subst hV3
      go_cut [12] (fun s12 wx => s12 = .int .i64 g ∧ Below V3.heap.size V3 wx)
      case first =>
        go_wp2_with fail
        refine (hwd.out _ (by omega) (by omega) (by omega) (by omega)).mono ?_
        rintro e W5 ⟨rfl, hb5⟩
        have hB5 := hB3.trans (hb5.mono hB3.size)
        go_wp2_with fail
        refine (hat.out g0 g1 g2 0 0 W5 hB5 (Lib.hid rfl) (by omega) (by omega) (bP3.below hb5 bP3.lt) (k1.below hb5 k1.lt) (k2.below hb5 k2.lt)).mono ?_
        rintro e W6 ⟨rfl, hb6⟩
        have hb6 := hb5.trans (hb6.mono hb5.size)
        clear hb5 hB5
        have hB6 := hB3.trans (hb6.mono hB3.size)
        have hg := hfin.out.1
        replace hg := Lib.hid hg
        generalize xc * (u + v) = mm at *
        go_wp2_with fail
        all_goals (refine (hat.out g0 g1 g2 (S.length - 1) _ W6 hB6 (Lib.hid (by omega)) (by omega) (by omega) (bP3.below hb6 bP3.lt) (k1.below hb6 k1.lt) (k2.below hb6 k2.lt)).mono ?_; rintro e W7 ⟨rfl, hb7⟩; go_wp2_with fail)
        all_goals go_meet
        all_goals (refine ⟨?_, hb6.trans (hb7.mono hb6.size)⟩; have hg := hg.out; congr 1; omega)
      case rest =>
        obtain ⟨rfl, hb4⟩ := hcut
        have hB4 := hB3.trans (hb4.mono hB3.size)
        have b4 := b3.below hb4 b3.lt
        have bP4 := bP3.below hb4 bP3.lt
        have bR4 := bR3.below hb4 bR3.lt
        have k14 := k1.below hb4 k1.lt
        have k24 := k2.below hb4 k2.lt
        replace hfin := Lib.hid hfin.out.2
        clear x0 x1 x2 x3 y0 y1 y2 b3 bP3 bR3 k1 k2 hB3 hb4 hm m1 m1' hwd e1 e2
        obtain ⟨V4, hV4⟩ : ∃ V, V = wc := ⟨_, rfl⟩
        subst hV4
        go_wp2_with fail
        refine (before_any 88 #[.pointer (some ⟨g0, 0, none⟩), .pointer (some ⟨g1, 0, none⟩), .pointer (some ⟨g2, 0, none⟩)] (S.length - 2) (fun k => atF T Sh temp k) _ g V4 (enters_of Try.func88 (by kernel_rfl) rfl) (by omega) (Lib.hid (by omega)) (by omega) (by omega)
          (Lib.hid fun j W hj hW => hat.out g0 g1 g2 (j + 1) _ W (hB4.trans (hW.mono hB4.size)) (Lib.hid (by omega)) (by omega) (by omega) (bP4.below hW bP4.lt) (k14.below hW k14.lt) (k24.below hW k24.lt)) (Lib.hid hmono.out)).mono ?_
        rintro e W5 ⟨rfl, hb5⟩
        rw [hidx.out]
        have hB5 := hB4.trans (hb5.mono hB4.size)
        go_wp2_with fail
        refine (hat.out g0 g1 g2 i _ W5 hB5 (Lib.hid rfl) (by omega) (by omega) (bP4.below hb5 bP4.lt) (k14.below hb5 k14.lt) (k24.below hb5 k24.lt)).mono ?_
        rintro e W6 ⟨rfl, hb6⟩
        replace hb6 := hb5.trans (hb6.mono hb5.size)
        have hB6 := hB4.trans (hb6.mono hB4.size)
        clear hb5 hB5
        go_wp2_with fail
        refine (hat.out g0 g1 g2 (i + 1) _ W6 hB6 (Lib.hid (by omega)) (by omega) (by omega) (bP4.below hb6 bP4.lt) (k14.below hb6 k14.lt) (k24.below hb6 k24.lt)).mono ?_
        rintro e W7 ⟨rfl, hb7⟩
        replace hb7 := hb6.trans (hb7.mono hb6.size)
        have hB7 := hB4.trans (hb7.mono hB4.size)
        clear hb6 hB6
        have b7 := b4.below hb7 b4.lt
        have bR7 := bR4.below hb7 bR4.lt
        clear hat hidx hmono ba0 bal bP4 k14 k24 hb7 hB4 b4 bR4
        generalize atF T Sh temp i = a0 at *
        generalize atF T Sh temp (i + 1) = a1 at *
        go_upto_region 9 with fail
        have hB8 := hB7.alloc hB7.size (Obj.cells #[Value.int IntKind.i64 ↑i, Value.int IntKind.i64 (g - a0), Value.int IntKind.i64 (a1 - g)] 114)
        have bP8 : Blk (W7.alloc (Obj.cells #[Value.int IntKind.i64 ↑i, Value.int IntKind.i64 (g - a0), Value.int IntKind.i64 (a1 - g)] 114)) W7.heap.size 114 #[Value.int IntKind.i64 ↑i, Value.int IntKind.i64 (g - a0), Value.int IntKind.i64 (a1 - g)] := Blk.new _ _ _
        have b8 := b7.alloc (Obj.cells #[Value.int IntKind.i64 ↑i, Value.int IntKind.i64 (g - a0), Value.int IntKind.i64 (a1 - g)] 114)
        have bR8 := bR7.alloc (Obj.cells #[Value.int IntKind.i64 ↑i, Value.int IntKind.i64 (g - a0), Value.int IntKind.i64 (a1 - g)] 114)
        clear b7 bR7 hB7
        generalize (W7.alloc (Obj.cells #[Value.int IntKind.i64 ↑i, Value.int IntKind.i64 (g - a0), Value.int IntKind.i64 (a1 - g)] 114)) = W8 at hB8 bP8 b8 bR8 ⊢
        generalize W7.heap.size = g3 at bP8 ⊢
        obtain ⟨x0, x1, x2, x3, _, _, _, _⟩ := b8.facts4
        obtain ⟨y0, y1, y2, _, _, _⟩ := bP8.facts3
        have x1' := fun d os => cell_regrown x1 d os
        have y0' := fun d os => cell_regrown y0 d os
        have y1' := fun d os => cell_regrown y1 d os
        have y2' := fun d os => cell_regrown y2 d os
        have cS0' := fun d os => cell_regrown (cell_later hB8 cS0) d os
        have cS1' := fun d os => cell_regrown (cell_later hB8 cS1) d os
        obtain ⟨q1, q1'⟩ := mul_in (a := a1 - g) (A := 120000000) (b := s0) (B := 10000) (by omega) (by omega) (by omega) (by omega) (by omega)
        obtain ⟨q2, q2'⟩ := mul_in (a := g - a0) (A := 120000000) (b := s1) (B := 10000) (by omega) (by omega) (by omega) (by omega) (by omega)
        simp only [Int.reduceMul, Int.reduceNeg] at q1 q1' q2 q2'
        have hw2 : IntKind.i64.wrap ((i : Int) + 1) = (i : Int) + 1 := IntWalk.i64_in _ (by omega)
        have hj1 : (i : Int) < S.length := by omega
        have hj2 : (i : Int) + 1 < S.length := by omega
        have hj3 : 0 ≤ (i : Int) + 1 := by omega
        have hj4 : ((i : Int) + 1).toNat = i + 1 := by omega
        refine wp_region_below_tail 16 (by kernel_rfl) (by kernel_rfl) ?_
        simp only [List.take_succ_cons, List.take_zero, List.drop_succ_cons, List.drop_zero]
        repeat (quiet_step (first | (go_at_call 89; exact quiet_call (fun W1 _ => between_any _ _ _ _ _ W1 (by omega) (by omega) (by omega) (by omega))) | (go_at_call 90; exact quiet_call (fun W1 _ => width_any _ _ _ W1 (by omega) (by omega) (by omega) (by omega)))))
        refine wpQuiet_nil ?_
        intro _ hw'
        obtain ⟨⟨dq, osq⟩, hw''⟩ := hw'
        subst hw''
        have hb9 := below_regrown W8 dq osq
        have bR9 := bR8.below hb9 bR8.lt
        have hB9 := hB8.trans (hb9.mono hB8.size)
        clear x1' y0' y1' y2' cS0' cS1' x0 x1 x2 x3 y0 y1 y2 hb9 bR8 hB8 bP8 b8 hw2 hj1 hj2 hj3 hj4
        generalize grow (redrawn W8 dq) osq = W9 at bR9 hB9 ⊢
        obtain ⟨z0, z1, z2, z3⟩ := bR9.facts2
        go_wp2
        refine bodyPost_ret (v := .agg #[.int .i64 ((a1 - g) * s0 + (g - a0) * s1), .int .i64 ((g - a0) + (a1 - g))]) (by simp [results, Try.results81, go_sem, z0, z1]) rfl ⟨hfin.out, ?_⟩
        exact (hB9.setCell (by simp) _).setCell (by simp) _
end Go.Proofs.Ytcghafdemklnnaa
