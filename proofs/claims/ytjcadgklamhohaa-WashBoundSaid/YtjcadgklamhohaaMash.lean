/- validMash, Mash. -/
import Derived.Test.YtjcadgklamhohaaVat
import Derived.Test.YtjcadgklamhohaaStoredOne
namespace Go.Proofs.Ytjcadgklamhohaa
open Go.RowKit Go.Sort
attribute [local go_sem] Oper.calm Oper.calmAt Oper.calmUpon

set_option maxHeartbeats 4000000 in
set_option maxRecDepth 100000 in
theorem validMash_any (g m x1 x2 h1 h2 : Int) (w : World) : Calls Try.prog 50 #[.agg #[.int .i64 g, .int .i64 m, .int .i64 x1, .int .i64 x2, .int .i64 h1, .int .i64 h2]] w (SomeBool (MashOk g m x1 x2 h1 h2) w) := by
  have hno := Lib.hid fun (h : ¬ MashOk g m x1 x2 h1 h2) W (hB : Below w.heap.size w W) => SomeBool.no h hB
  have hx := Lib.hid fun W => covers_any 0 1000 x1 x2 W
  have hh := Lib.hid fun W => covers_any 0 10000 h1 h2 W
  rcases (show (¬ 1 ≤ g) ∨ (1 ≤ g ∧ ¬ g ≤ 16777216) ∨ (1 ≤ g ∧ g ≤ 16777216 ∧ ¬ 1 ≤ m) ∨ (1 ≤ g ∧ g ≤ 16777216 ∧ 1 ≤ m ∧ ¬ m ≤ 16777216) ∨ (1 ≤ g ∧ g ≤ 16777216 ∧ 1 ≤ m ∧ m ≤ 16777216) by omega) with c1 | ⟨c1, c2⟩ | ⟨c1, c2, c3⟩ | ⟨c1, c2, c3, c4⟩ | ⟨c1, c2, c3, c4⟩
  · replace hno := Lib.hid (hno.out (fun h => c1 h.1.1))
    have q1 : decide (1 ≤ g) = false := by simpa using c1
    clear c1 hx hh
    go_enter Try.func50, Try.ntmps50
    go_wp2
    go_ret
    exact hno.out _ ((Below.refl _ _).alloc (Nat.le_refl _) _)
  · replace hno := Lib.hid (hno.out (fun h => c2 h.1.2))
    have q1 : decide (1 ≤ g) = true := by simpa using c1
    have q2 : decide (g ≤ 16777216) = false := by simpa using c2
    clear c1 c2 hx hh
    go_enter Try.func50, Try.ntmps50
    go_wp2
    go_ret
    exact hno.out _ ((Below.refl _ _).alloc (Nat.le_refl _) _)
  · replace hno := Lib.hid (hno.out (fun h => c3 h.2.1.1))
    have q1 : decide (1 ≤ g) = true := by simpa using c1
    have q2 : decide (g ≤ 16777216) = true := by simpa using c2
    have q3 : decide (1 ≤ m) = false := by simpa using c3
    clear c1 c2 c3 hx hh
    go_enter Try.func50, Try.ntmps50
    go_wp2
    go_ret
    exact hno.out _ ((Below.refl _ _).alloc (Nat.le_refl _) _)
  · replace hno := Lib.hid (hno.out (fun h => c4 h.2.1.2))
    have q1 : decide (1 ≤ g) = true := by simpa using c1
    have q2 : decide (g ≤ 16777216) = true := by simpa using c2
    have q3 : decide (1 ≤ m) = true := by simpa using c3
    have q4 : decide (m ≤ 16777216) = false := by simpa using c4
    clear c1 c2 c3 c4 hx hh
    go_enter Try.func50, Try.ntmps50
    go_wp2
    go_ret
    exact hno.out _ ((Below.refl _ _).alloc (Nat.le_refl _) _)
  · have hyes := Lib.hid fun (k1 : SpIn 0 1000 x1 x2) (k2 : SpIn 0 10000 h1 h2) W (hB : Below w.heap.size w W) => SomeBool.yes (p := MashOk g m x1 x2 h1 h2) ⟨⟨c1, c2⟩, ⟨c3, c4⟩, k1, k2⟩ hB
    have q1 : decide (1 ≤ g) = true := by simpa using c1
    have q2 : decide (g ≤ 16777216) = true := by simpa using c2
    have q3 : decide (1 ≤ m) = true := by simpa using c3
    have q4 : decide (m ≤ 16777216) = true := by simpa using c4
    clear c1 c2 c3 c4
    go_enter Try.func50, Try.ntmps50
    go_wp2_with fail
    refine calls_world (fun W => Below w.heap.size w W ∧ Blk W w.heap.size 25 #[.int .i64 g, .int .i64 m, .int .i64 x1, .int .i64 x2, .int .i64 h1, .int .i64 h2]) ⟨(Below.refl _ _).alloc (Nat.le_refl _) _, Blk.new _ _ _⟩ ?_
    rintro W0 ⟨hB, b0⟩
    refine (hx.out _).mono ?_
    rintro e W1 ⟨r, rfl, hr, hb⟩
    replace b0 := b0.below hb b0.lt
    replace hB := hB.trans (hb.mono hB.size)
    clear hb hx
    obtain ⟨y0, y1, y2, y3, y4, y5⟩ := b0.facts6
    cases r with
    | false =>
      replace hno := Lib.hid (hno.out (fun h => Bool.noConfusion (hr.2 h.2.2.1)))
      clear hr hyes hh
      go_wp2_with fail
      go_ret
      exact hno.out _ hB
    | true =>
      replace hyes := Lib.hid (hyes.out (hr.1 rfl))
      clear hr
      go_wp2_with fail
      refine (hh.out _).mono ?_
      rintro e W2 ⟨r, rfl, hr, hb⟩
      replace hB := hB.trans (hb.mono hB.size)
      clear hb hh b0 y0 y1 y2 y3 y4 y5
      cases r with
      | false =>
        replace hno := Lib.hid (hno.out (fun h => Bool.noConfusion (hr.2 h.2.2.2)))
        clear hr hyes
        go_wp2_with fail
        go_ret
        exact hno.out _ hB
      | true =>
        replace hyes := Lib.hid (hyes.out (hr.1 rfl))
        clear hr hno
        go_wp2_with fail
        go_ret
        exact hyes.out _ hB

/-- what Mash returns -/
def wortV (r : Wort) : Value := .tuple #[.agg #[.int .i64 r.s1, .int .i64 r.s2, .int .i64 r.v1, .int .i64 r.v2], .agg #[.int .i64 r.l1, .int .i64 r.l2], .int .i64 r.k]
theorem Blk.set4 {w : World} {g : Nat} {t : TypeId} {a b c d z0 z1 z2 z3 : Value} (h : Blk w g t #[z0, z1, z2, z3]) : Blk ((((w.setCell ⟨g, 0, none⟩ a).setCell ⟨g, 1, none⟩ b).setCell ⟨g, 2, none⟩ c).setCell ⟨g, 3, none⟩ d) g t #[a, b, c, d] := by
  have k := (((h.set_ 0 a).set_ 1 b).set_ 2 c).set_ 3 d
  simp only [List.setIfInBounds_toArray, List.set_cons_zero, List.set_cons_succ] at k
  exact k

set_option maxHeartbeats 8000000 in
set_option maxRecDepth 100000 in
theorem Mash_any (g m x1 x2 h1 h2 : Int) (w : World) : Calls Try.prog 16 #[.agg #[.int .i64 g, .int .i64 m, .int .i64 x1, .int .i64 x2, .int .i64 h1, .int .i64 h2]] w fun e w' => e = .returned (wortV (mashR g m x1 x2 h1 h2)) ∧ Below w.heap.size w w' := by
  have hv := Lib.hid fun W => validMash_any g m x1 x2 h1 h2 W
  have hfin := Lib.hid (show ∀ r : Wort, mashR g m x1 x2 h1 h2 = r → ∀ W, Below w.heap.size w W → (Ending.returned (wortV r) = .returned (wortV (mashR g m x1 x2 h1 h2)) ∧ Below w.heap.size w W) from fun r h W hB => ⟨by rw [h], hB⟩)
  have hno := Lib.hid fun (h : ¬ MashOk g m x1 x2 h1 h2) => hfin.out ⟨0, 0, 0, 0, 0, 0, 1⟩ (by unfold mashR; rw [if_neg h])
  have hsh := Lib.hid fun (h : MashOk g m x1 x2 h1 h2) (h' : volLo g m h2 < 1) => hfin.out ⟨0, 0, 0, 0, 0, 0, 10⟩ (by unfold mashR; rw [if_pos h, if_pos h'])
  have hyes := Lib.hid fun (h : MashOk g m x1 x2 h1 h2) (h' : ¬ volLo g m h2 < 1) => hfin.out _ (by unfold mashR; rw [if_pos h, if_neg h'])
  clear hfin
  generalize mashR g m x1 x2 h1 h2 = rr at *
  simp only [wortV] at hno hsh hyes ⊢
  go_enter Try.func16, Try.ntmps16
  go_wp2_with fail
  refine calls_world (fun W => Below w.heap.size w W ∧ Blk W w.heap.size 25 #[.int .i64 g, .int .i64 m, .int .i64 x1, .int .i64 x2, .int .i64 h1, .int .i64 h2] ∧ Blk W (w.heap.size + 1) 27 #[.int .i64 0, .int .i64 0, .int .i64 0, .int .i64 0] ∧ Blk W (w.heap.size + 1 + 1) 23 #[.int .i64 0, .int .i64 0])
    ⟨(((Below.refl _ _).alloc (Nat.le_refl _) _).alloc (by simp) _).alloc (by simp; omega) _, ((Blk.new _ _ _).alloc _).alloc _, (blk_at (by simp)).alloc _, blk_at (by simp)⟩ ?_
  rintro W0 ⟨hB, b0, b1, b2⟩
  refine (hv.out _).mono ?_
  rintro e W1 ⟨r, rfl, hr, hb⟩
  replace b0 := b0.below hb b0.lt
  replace b1 := b1.below hb b1.lt
  replace b2 := b2.below hb b2.lt
  replace hB := hB.trans (hb.mono hB.size)
  clear hb hv
  obtain ⟨c0, c1, c2, c3, c4, c5⟩ := b0.facts6
  have n2 := b2.lt
  cases r with
  | false =>
    replace hno := Lib.hid (hno.out (fun h => Bool.noConfusion (hr.2 h)))
    clear hr hsh hyes
    obtain ⟨y0, y1, y2, y3, f0, f1, f2, f3⟩ := b1.facts4
    obtain ⟨z0, z1, e0, e1⟩ := b2.facts2
    go_wp2_with fail
    refine ret_world (fun W => Below w.heap.size w W ∧ Blk W (w.heap.size + 1) 27 #[.int .i64 0, .int .i64 0, .int .i64 0, .int .i64 0] ∧ Blk W (w.heap.size + 1 + 1) 23 #[.int .i64 0, .int .i64 0]) ⟨belowp (belowp (belowp hB (by omega)) (by omega)) (by omega), b1.set4.farp (by omega), ((b2.farp (by omega)).farp (by omega)).setp⟩ ?_
    clear hB b0 b1 b2 c0 c1 c2 c3 c4 c5 y0 y1 y2 y3 f0 f1 f2 f3 z0 z1 e0 e1
    rintro W ⟨hB, b1, b2⟩
    obtain ⟨y0, y1, y2, y3, _, _, _, _⟩ := b1.facts4
    obtain ⟨z0, z1, _, _⟩ := b2.facts2
    exact bodyPost_ret (v := .tuple #[.agg #[.int .i64 0, .int .i64 0, .int .i64 0, .int .i64 0], .agg #[.int .i64 0, .int .i64 0], .int .i64 1]) (by simp [results, Try.results16, go_sem, y0, y1, y2, y3, z0, z1]) rfl (hno.out _ hB)
  | true =>
    have hok := hr.1 rfl
    clear hr hno
    obtain ⟨⟨a1, a2⟩, ⟨a3, a4⟩, ⟨a5, a6⟩, ⟨a7, a8⟩, a9, a10⟩ := vol_bd hok
    obtain ⟨⟨g0, g1⟩, ⟨m0, m1⟩, ⟨xa, xb, xc⟩, ⟨ha, hb, hc⟩⟩ := id hok
    replace hsh := Lib.hid (hsh.out hok)
    replace hyes := Lib.hid (hyes.out hok)
    clear hok
    simp only [volLo, volHi] at hsh hyes a9 a10
    have X1b := prod_bd (A := 16777216) (B := 1000) (show 0 ≤ g by omega) g1 xa (by omega)
    have X2b := prod_bd (A := 16777216) (B := 1000) (show 0 ≤ g by omega) g1 (show 0 ≤ x2 by omega) xc
    generalize hH1 : g * h1 = H1 at *
    generalize hH2 : g * h2 = H2 at *
    generalize hC1 : H1 / 1000 = C1 at *
    generalize hC2 : upQ H2 1000 = C2 at *
    have k1 := Lib.hid fun W => exactly_any g W
    have k2 := Lib.hid fun W => exactly_any m W
    have k3 := Lib.hid fun W => times_any g g h1 h2 H1 H2 W (Lib.hid hH1) (Lib.hid hH2) (by omega) (by omega)
    have k4 := Lib.hid fun W => by_any H1 H2 1000 C1 C2 W (by omega) (by omega) (by omega) (by omega) (by omega) (Lib.hid hC1) (Lib.hid hC2)
    clear hH1 hH2 hC1 hC2
    generalize hv1 : m - C2 = v1 at *
    generalize hv2 : m - C1 = v2 at *
    have k5 := Lib.hid fun W => less_any m m C1 C2 v1 v2 W (Lib.hid hv1) (Lib.hid hv2) (by omega) (by omega)
    generalize hX1 : g * x1 = X1 at *
    generalize hX2 : g * x2 = X2 at *
    have k6 := Lib.hid fun W => times_any g g x1 x2 X1 X2 W (Lib.hid hX1) (Lib.hid hX2) (by omega) (by omega)
    generalize hMM : 1000 * m = MM at *
    have r1 : IntKind.i64.wrap (1000 * m) = MM := by rw [IntWalk.i64_in _ (by omega)]; exact hMM
    have k7 := fun (h : 1 ≤ v1) => prod_bd (a := X1) (b := v1) (A := 16777216000) (B := 16777216) X1b.1 X1b.2 (by omega) (by omega)
    have k8 := fun (h : 1 ≤ v1) => prod_bd (a := X2) (b := v2) (A := 16777216000) (B := 16777216) X2b.1 X2b.2 (by omega) (by omega)
    have k9 := fun (h : 1 ≤ v1) => prod_bd (a := X1) (b := m - v2) (A := 16777216000) (B := 16777216) X1b.1 X1b.2 (by omega) (by omega)
    have k10 := fun (h : 1 ≤ v1) => prod_bd (a := X2) (b := m - v1) (A := 16777216000) (B := 16777216) X2b.1 X2b.2 (by omega) (by omega)
    have kk := Lib.hid (show 1 ≤ v1 → _ from fun h => And.intro (k7 h) (And.intro (k8 h) (And.intro (k9 h) (And.intro (k10 h) (show (0 < MM ∧ MM ≤ 16777216000) ∧ 0 ≤ m - v2 ∧ m - v1 ≤ 16777216 ∧ 0 ≤ m - v1 ∧ m - v2 ≤ 16777216 from by omega)))))
    clear k7 k8 k9 k10 hX1 hX2 hMM hv1 hv2 a1 a2 a3 a4 a5 a6 a7 a8 a9 a10 g0 g1 m0 m1 xa xb xc ha hb hc X1b X2b
    have c0' := fun d os => cell_regrown c0 d os
    have c1' := fun d os => cell_regrown c1 d os
    go_upto_region 3 with fail
    refine wp_region_two_below 6 5 6 83 83 #[.int .i64 0, .int .i64 0] #[.int .i64 0, .int .i64 0] (by kernel_rfl) (by kernel_rfl)
      ⟨_, rfl, rfl, rfl, fun a w => by kernel_rfl⟩ ⟨_, rfl, rfl, rfl, fun a w => by kernel_rfl⟩ (by decide) (by kernel_rfl) (by kernel_rfl) ?_
    simp only [List.take_succ_cons, List.take_zero, List.drop_succ_cons, List.drop_zero]
    repeat ((refine wpCalm_step (fun K hK => ?_)); go_simp; first | (refine hK _ ?_; clear hK K) | fail)
    (refine wpCalm_step (fun K hK => ?_)); go_simp; (apply Exists.intro; refine ⟨fun _ => ?_, hK _ ?_⟩; (first | (go_at_call 51; exact calm_call (fun W1 _ => k1.out W1))); clear hK K)
    repeat ((refine wpCalm_step (fun K hK => ?_)); go_simp; first | (refine hK _ ?_; clear hK K) | fail)
    (refine wpCalm_step (fun K hK => ?_)); go_simp; (apply Exists.intro; refine ⟨fun _ => ?_, hK _ ?_⟩; (first | (go_at_call 51; exact calm_call (fun W1 _ => k2.out W1))); clear hK K)
    repeat ((refine wpCalm_step (fun K hK => ?_)); go_simp; first | (refine hK _ ?_; clear hK K) | fail)
    refine wpCalm_nil ?_
    intro W2 g5 g6 hb B5 B6 hg5 hg6 hne
    simp only [Act.put, List.setIfInBounds_toArray, List.set_cons_zero, List.set_cons_succ]
    have hn5 : w.heap.size + 1 + 1 < g5 := by omega
    have hn6 : w.heap.size + 1 + 1 < g6 := by omega
    replace b0 := b0.below hb b0.lt
    replace b1 := b1.below hb b1.lt
    replace b2 := b2.below hb b2.lt
    replace hB := hB.trans (hb.mono hB.size)
    clear hb hg5 hg6 n2 k1 k2 c0 c1 c2 c3 c4 c5 c0' c1'
    obtain ⟨x0, x1_, x2_, x3⟩ := B5.facts2
    obtain ⟨y0, y1, y2, y3⟩ := B6.facts2
    go_upto_region 4 with fail
    refine wp_world (fun W => Below w.heap.size w W ∧ Blk W w.heap.size 25 #[.int .i64 g, .int .i64 m, .int .i64 x1, .int .i64 x2, .int .i64 h1, .int .i64 h2] ∧ Blk W (w.heap.size + 1) 27 #[.int .i64 0, .int .i64 0, .int .i64 0, .int .i64 0] ∧ Blk W (w.heap.size + 1 + 1) 23 #[.int .i64 0, .int .i64 0] ∧ Blk W g5 83 #[.int .i64 g, .int .i64 g] ∧ Blk W g6 83 #[.int .i64 m, .int .i64 m])
      ⟨belowp (belowp hB (by omega)) (by omega), (b0.farp (by omega)).farp (by omega), (b1.farp (by omega)).farp (by omega), (b2.farp (by omega)).farp (by omega), B5.setp.farp hne, (B6.farp hne.symm).setp⟩ ?_
    clear hB b0 b1 b2 B5 B6 x0 x1_ x2_ x3 y0 y1 y2 y3
    rintro W3 ⟨hB, b0, b1, b2, b5, b6⟩
    obtain ⟨p_0, p_1, _, _⟩ := b5.facts2
    obtain ⟨q_0, q_1, q_2, q_3, q_4, q_5⟩ := b0.facts6
    go_wp2_with fail
    refine (k3.out _).mono ?_
    rintro e W4 ⟨rfl, hb⟩
    replace b0 := b0.below hb b0.lt
    replace b1 := b1.below hb b1.lt
    replace b2 := b2.below hb b2.lt
    replace b5 := b5.below hb b5.lt
    replace b6 := b6.below hb b6.lt
    replace hB := hB.trans (hb.mono hB.size)
    clear hb k3 p_0 p_1 q_0 q_1 q_2 q_3 q_4 q_5
    go_wp2_with fail
    refine (k4.out _).mono ?_
    rintro e W5 ⟨rfl, hb⟩
    replace b0 := b0.below hb b0.lt
    replace b1 := b1.below hb b1.lt
    replace b2 := b2.below hb b2.lt
    replace b5 := b5.below hb b5.lt
    replace b6 := b6.below hb b6.lt
    replace hB := hB.trans (hb.mono hB.size)
    clear hb k4 
    go_upto_region 5 with fail
    refine wp_world (fun W => Below w.heap.size w W ∧ Blk W w.heap.size 25 #[.int .i64 g, .int .i64 m, .int .i64 x1, .int .i64 x2, .int .i64 h1, .int .i64 h2] ∧ Blk W (w.heap.size + 1) 27 #[.int .i64 0, .int .i64 0, .int .i64 0, .int .i64 0] ∧ Blk W (w.heap.size + 1 + 1) 23 #[.int .i64 0, .int .i64 0] ∧ Blk W g5 83 #[.int .i64 g, .int .i64 g] ∧ Blk W g6 83 #[.int .i64 m, .int .i64 m] ∧ Blk W W5.heap.size 83 #[.int .i64 C1, .int .i64 C2] ∧ (w.heap.size + 1 + 1 < W5.heap.size)) ⟨hB.alloc hB.size _, b0.alloc _, b1.alloc _, b2.alloc _, b5.alloc _, b6.alloc _, Blk.new _ _ _, b2.lt⟩ ?_
    clear hB b0 b1 b2 b5 b6
    generalize W5.heap.size = g7 at *
    rintro W6 ⟨hB, b0, b1, b2, b5, b6, b7, hn7⟩
    obtain ⟨p_0, p_1, _, _⟩ := b6.facts2
    obtain ⟨q_0, q_1, _, _⟩ := b7.facts2
    go_wp2_with fail
    refine (k5.out _).mono ?_
    rintro e W7 ⟨rfl, hb⟩
    replace b0 := b0.below hb b0.lt
    replace b1 := b1.below hb b1.lt
    replace b2 := b2.below hb b2.lt
    replace b5 := b5.below hb b5.lt
    replace b6 := b6.below hb b6.lt
    replace b7 := b7.below hb b7.lt
    replace hB := hB.trans (hb.mono hB.size)
    clear hb k5 p_0 p_1 q_0 q_1
    go_upto_region 6 with fail
    refine wp_world (fun W => Below w.heap.size w W ∧ Blk W w.heap.size 25 #[.int .i64 g, .int .i64 m, .int .i64 x1, .int .i64 x2, .int .i64 h1, .int .i64 h2] ∧ Blk W (w.heap.size + 1) 27 #[.int .i64 0, .int .i64 0, .int .i64 0, .int .i64 0] ∧ Blk W (w.heap.size + 1 + 1) 23 #[.int .i64 0, .int .i64 0] ∧ Blk W g5 83 #[.int .i64 g, .int .i64 g] ∧ Blk W g6 83 #[.int .i64 m, .int .i64 m] ∧ Blk W g7 83 #[.int .i64 C1, .int .i64 C2] ∧ Blk W W7.heap.size 83 #[.int .i64 v1, .int .i64 v2] ∧ (w.heap.size + 1 + 1 < W7.heap.size)) ⟨hB.alloc hB.size _, b0.alloc _, b1.alloc _, b2.alloc _, b5.alloc _, b6.alloc _, b7.alloc _, Blk.new _ _ _, b2.lt⟩ ?_
    clear hB b0 b1 b2 b5 b6 b7
    generalize W7.heap.size = g8 at *
    rintro W8 ⟨hB, b0, b1, b2, b5, b6, b7, b8, hn8⟩
    obtain ⟨p_0, p_1, _, _⟩ := b8.facts2
    have n2 := b2.lt
    by_cases hlo : v1 < 1
    · have q1 : decide (v1 < 1) = true := by simpa using hlo
      replace hsh := Lib.hid (hsh.out hlo)
      clear hyes kk k6 hlo b0 b5 b6 b7 b8
      obtain ⟨y0, y1, y2, y3, f0, f1, f2, f3⟩ := b1.facts4
      obtain ⟨z0, z1, e0, e1⟩ := b2.facts2
      go_wp2_with fail
      refine ret_world (fun W => Below w.heap.size w W ∧ Blk W (w.heap.size + 1) 27 #[.int .i64 0, .int .i64 0, .int .i64 0, .int .i64 0] ∧ Blk W (w.heap.size + 1 + 1) 23 #[.int .i64 0, .int .i64 0]) ⟨belowp (belowp (belowp hB (by omega)) (by omega)) (by omega), b1.set4.farp (by omega), ((b2.farp (by omega)).farp (by omega)).setp⟩ ?_
      clear hB b1 b2 p_0 p_1 y0 y1 y2 y3 f0 f1 f2 f3 z0 z1 e0 e1
      rintro W ⟨hB, b1, b2⟩
      obtain ⟨y0, y1, y2, y3, _, _, _, _⟩ := b1.facts4
      obtain ⟨z0, z1, _, _⟩ := b2.facts2
      exact bodyPost_ret (v := .tuple #[.agg #[.int .i64 0, .int .i64 0, .int .i64 0, .int .i64 0], .agg #[.int .i64 0, .int .i64 0], .int .i64 10]) (by simp [results, Try.results16, go_sem, y0, y1, y2, y3, z0, z1]) rfl (hsh.out _ hB)
    have q1 : decide (v1 < 1) = false := by simpa using hlo
    replace hyes := Lib.hid (hyes.out (by omega))
    obtain ⟨⟨ya, yb⟩, ⟨yc, yd⟩, ⟨ye, yf⟩, ⟨yg, yh⟩, ⟨ma, mb⟩, mc, md, me, mf⟩ := kk.out (by omega)
    generalize hY1 : X1 * v1 = Y1 at *
    generalize hY2 : X2 * v2 = Y2 at *
    generalize hZ1 : X1 * (m - v2) = Z1 at *
    generalize hZ2 : X2 * (m - v1) = Z2 at *
    generalize hS1 : Y1 / MM = S1 at *
    generalize hS2 : upQ Y2 MM = S2 at *
    generalize hL1 : Z1 / MM = L1 at *
    generalize hL2 : upQ Z2 MM = L2 at *
    have j1 := Lib.hid fun W => times_any X1 X2 v1 v2 Y1 Y2 W (Lib.hid hY1) (Lib.hid hY2) (by omega) (by omega)
    have j2 := Lib.hid fun W => by_any Y1 Y2 MM S1 S2 W (by omega) (by omega) (by omega) (by omega) (by omega) (Lib.hid hS1) (Lib.hid hS2)
    generalize hD1 : m - v2 = D1 at *
    generalize hD2 : m - v1 = D2 at *
    have j3 := Lib.hid fun W => less_any m m v1 v2 D1 D2 W (Lib.hid hD1) (Lib.hid hD2) (by omega) (by omega)
    have j4 := Lib.hid fun W => times_any X1 X2 D1 D2 Z1 Z2 W (Lib.hid hZ1) (Lib.hid hZ2) (by omega) (by omega)
    have j5 := Lib.hid fun W => by_any Z1 Z2 MM L1 L2 W (by omega) (by omega) (by omega) (by omega) (by omega) (Lib.hid hL1) (Lib.hid hL2)
    clear hsh kk hlo ya yb yc yd ye yf yg yh ma mb mc md me mf hY1 hY2 hZ1 hZ2 hS1 hS2 hL1 hL2 hD1 hD2 b7
    go_upto_region 8 with fail
    clear q1 p_0 p_1
    obtain ⟨c0, c1, c2, c3, c4, c5⟩ := b0.facts6
    obtain ⟨d0, d1, _, _⟩ := b5.facts2
    have c1' := fun d os => cell_regrown c1 d os
    have c2' := fun d os => cell_regrown c2 d os
    have c3' := fun d os => cell_regrown c3 d os
    have d0' := fun d os => cell_regrown d0 d os
    have d1' := fun d os => cell_regrown d1 d os
    refine wp_region_one_stored 7 9 38 83 #[.int .i64 0, .int .i64 0] #[.int .i64 X1, .int .i64 X2] (by kernel_rfl) (by kernel_rfl) ⟨_, rfl, rfl, rfl, fun a w => by kernel_rfl⟩ ⟨_, rfl, rfl, rfl, rfl, by kernel_rfl⟩ (by kernel_rfl) rfl (by simp [Value.oneCell']) (by decide) (by kernel_rfl) (by kernel_rfl) ?_
    simp only [List.take_succ_cons, List.take_zero, List.drop_succ_cons, List.drop_zero]
    repeat ((refine wpCalm_step (fun K hK => ?_)); go_simp; first | (refine hK _ ?_; clear hK K) | fail)
    (refine wpCalm_step (fun K hK => ?_)); go_simp; (apply Exists.intro; refine ⟨fun _ => ?_, hK _ ?_⟩; (first | (go_at_call 52; exact calm_call (fun W1 _ => k6.out W1))); clear hK K)
    repeat ((refine wpCalm_step (fun K hK => ?_)); go_simp; first | (refine hK _ ?_; clear hK K) | fail)
    refine wpCalm_nil ?_
    refine ⟨⟨rfl, by simp⟩, ?_⟩
    intro W30 g9 hb b9 hg9
    simp only [Act.put, List.setIfInBounds_toArray, List.set_cons_zero, List.set_cons_succ]
    replace b0 := b0.below hb b0.lt
    replace b1 := b1.below hb b1.lt
    replace b2 := b2.below hb b2.lt
    replace b5 := b5.below hb b5.lt
    replace b6 := b6.below hb b6.lt
    replace b8 := b8.below hb b8.lt
    replace hB := hB.trans (hb.mono hB.size)
    have hn9 : w.heap.size + 1 + 1 < g9 := by omega
    clear hb hg9 k6 r1 b5 b0 c0 c1 c2 c3 c4 c5 d0 d1 c1' c2' c3' d0' d1'
    obtain ⟨x0, x1', _, _⟩ := b9.facts2
    obtain ⟨y0, y1, _, _⟩ := b8.facts2
    go_upto_region 9 with fail
    have x0' := fun d os => cell_regrown x0 d os
    have x1'' := fun d os => cell_regrown x1' d os
    have y0' := fun d os => cell_regrown y0 d os
    have y1' := fun d os => cell_regrown y1 d os
    refine wp_region_below_tail 7 (by kernel_rfl) (by kernel_rfl) ?_
    simp only [List.take_succ_cons, List.take_zero, List.drop_succ_cons, List.drop_zero]
    repeat (quiet_step (fail))
    quiet_step (first | (go_at_call 52; exact quiet_call (fun W1 _ => j1.out W1)))
    repeat (quiet_step (fail))
    quiet_step (first | (go_at_call 53; exact quiet_call (fun W1 _ => j2.out W1)))
    repeat (quiet_step (fail))
    refine wpQuiet_nil ?_
    intro _ hw'
    obtain ⟨⟨dq, osq⟩, hw''⟩ := hw'
    subst hw''
    have hb := below_regrown W30 dq osq
    replace b1 := b1.below hb b1.lt
    replace b2 := b2.below hb b2.lt
    replace b6 := b6.below hb b6.lt
    replace b8 := b8.below hb b8.lt
    replace b9 := b9.below hb b9.lt
    replace hB := hB.trans (hb.mono hB.size)
    clear hb x0 x1' y0 y1 x0' x1'' y0' y1' j1 j2
    generalize grow (redrawn W30 dq) osq = W31 at *
    obtain ⟨y0, y1, y2, y3, f0, f1, f2, f3⟩ := b1.facts4
    go_upto_region 10 with fail
    skip
    refine wp_world (fun W => Below w.heap.size w W ∧ Blk W (w.heap.size + 1) 27 #[.int .i64 S1, .int .i64 S2, .int .i64 v1, .int .i64 v2] ∧ Blk W (w.heap.size + 1 + 1) 23 #[.int .i64 0, .int .i64 0] ∧ Blk W g6 83 #[.int .i64 m, .int .i64 m] ∧ Blk W g8 83 #[.int .i64 v1, .int .i64 v2] ∧ Blk W g9 83 #[.int .i64 X1, .int .i64 X2]) ⟨belowp (belowp hB (by omega)) (by omega), b1.set4, (b2.farp (by omega)).farp (by omega), (b6.farp (by omega)).farp (by omega), (b8.farp (by omega)).farp (by omega), (b9.farp (by omega)).farp (by omega)⟩ ?_
    clear hB b1 b2 b6 b8 b9 y0 y1 y2 y3 f0 f1 f2 f3
    rintro W32 ⟨hB, b1, b2, b6, b8, b9⟩
    obtain ⟨y0, y1, y2, y3, f0, f1, f2, f3⟩ := b1.facts4
    obtain ⟨x0, x1', _, _⟩ := b9.facts2
    obtain ⟨m0, m1, _, _⟩ := b6.facts2
    obtain ⟨u0, u1, _, _⟩ := b8.facts2
    have y0' := fun d os => cell_regrown y0 d os
    have y1' := fun d os => cell_regrown y1 d os
    have y2' := fun d os => cell_regrown y2 d os
    have y3' := fun d os => cell_regrown y3 d os
    have x0' := fun d os => cell_regrown x0 d os
    have x1'' := fun d os => cell_regrown x1' d os
    have m0' := fun d os => cell_regrown m0 d os
    have m1' := fun d os => cell_regrown m1 d os
    have u0' := fun d os => cell_regrown u0 d os
    have u1' := fun d os => cell_regrown u1 d os
    refine wp_region_below_tail 8 (by kernel_rfl) (by kernel_rfl) ?_
    simp only [List.take_succ_cons, List.take_zero, List.drop_succ_cons, List.drop_zero]
    repeat (quiet_step (fail))
    quiet_step (first | (go_at_call 54; exact quiet_call (fun W1 _ => j3.out W1)))
    repeat (quiet_step (fail))
    quiet_step (first | (go_at_call 52; exact quiet_call (fun W1 _ => j4.out W1)))
    repeat (quiet_step (fail))
    quiet_step (first | (go_at_call 53; exact quiet_call (fun W1 _ => j5.out W1)))
    repeat (quiet_step (fail))
    refine wpQuiet_nil ?_
    intro _ hw'
    obtain ⟨⟨dq, osq⟩, hw''⟩ := hw'
    subst hw''
    have hb := below_regrown W32 dq osq
    replace b1 := b1.below hb b1.lt
    replace b2 := b2.below hb b2.lt
    replace hB := hB.trans (hb.mono hB.size)
    clear hb y0 y1 y2 y3 x0 x1' m0 m1 u0 u1 y0' y1' y2' y3' x0' x1'' m0' m1' u0' u1' f0 f1 f2 f3 j3 j4 j5 b6 b8 b9
    generalize grow (redrawn W32 dq) osq = W33 at *
    obtain ⟨y0, y1, y2, y3, f0, f1, f2, f3⟩ := b1.facts4
    obtain ⟨z0, z1, e0, e1⟩ := b2.facts2
    go_wp2_with fail
    refine ret_world (fun W => Below w.heap.size w W ∧ Blk W (w.heap.size + 1) 27 #[.int .i64 S1, .int .i64 S2, .int .i64 v1, .int .i64 v2] ∧ Blk W (w.heap.size + 1 + 1) 23 #[.int .i64 L1, .int .i64 L2]) ⟨belowp (belowp (belowp hB (by omega)) (by omega)) (by omega), b1.set4.farp (by omega), ((b2.farp (by omega)).farp (by omega)).setp⟩ ?_
    clear hB b1 b2 y0 y1 y2 y3 f0 f1 f2 f3 z0 z1 e0 e1
    rintro W ⟨hB, b1, b2⟩
    obtain ⟨y0, y1, y2, y3, _, _, _, _⟩ := b1.facts4
    obtain ⟨z0, z1, _, _⟩ := b2.facts2
    exact bodyPost_ret (v := .tuple #[.agg #[.int .i64 S1, .int .i64 S2, .int .i64 v1, .int .i64 v2], .agg #[.int .i64 L1, .int .i64 L2], .int .i64 0]) (by simp [results, Try.results16, go_sem, y0, y1, y2, y3, z0, z1]) rfl (hyes.out _ hB)
end Go.Proofs.Ytjcadgklamhohaa
