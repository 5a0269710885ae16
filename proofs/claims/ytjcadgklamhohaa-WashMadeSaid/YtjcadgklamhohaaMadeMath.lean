/- WashMade returns true: the sugar of a grist is in the wort or lost. -/
import Derived.Test.YtjcadgklamhohaaAlive
import Derived.Test.YtjcadgklamhohaaRefBase
namespace Go.Proofs.Ytjcadgklamhohaa
open Go.RowKit Go.Sort
attribute [local go_sem] Oper.calm Oper.calmAt Oper.calmUpon

/-- a number of a span by a remainder -/
def innN (lo hi u : Int) : Int := lo + u % (hi - lo + 1)
theorem inn_in {lo hi u : Int} (h : lo ≤ hi) : lo ≤ innN lo hi u ∧ innN lo hi u ≤ hi := by
  have e1 := Int.emod_nonneg u (show hi - lo + 1 ≠ 0 by omega)
  have e2 := Int.emod_lt_of_pos u (show 0 < hi - lo + 1 by omega)
  unfold innN
  omega
set_option maxHeartbeats 2000000 in
theorem inner_any (lo hi u v : Int) (w : World) (h : lo ≤ hi) (h1 : -1152921504606846976 ≤ lo) (h2 : hi ≤ 1152921504606846976) (hu : 0 ≤ u ∧ u ≤ 4294967295) (hv : Hid (innN lo hi u = v)) :
    Calls Try.prog 41 #[.agg #[.int .i64 lo, .int .i64 hi], .int .u32 u] w fun e w' => e = .returned (.int .i64 v) ∧ Below w.heap.size w w' := by
  have e0 := inn_in (u := u) h
  have e1 : lo + u % (hi - lo + 1) = v := hv.out
  rw [hv.out] at e0
  have w1 : IntKind.i64.wrap u = u := IntWalk.i64_in _ (by omega)
  have w2 : IntKind.i64.wrap (hi - lo) = hi - lo := IntWalk.i64_in _ (by omega)
  have w3 : IntKind.i64.wrap (hi - lo + 1) = hi - lo + 1 := IntWalk.i64_in _ (by omega)
  have t1 : u.tmod (hi - lo + 1) = u % (hi - lo + 1) := Int.tmod_eq_emod_of_nonneg hu.1
  have n1 : ¬ hi - lo + 1 = 0 := by omega
  have n1' : (hi - lo + 1 == 0) = false := by simpa using n1
  generalize u % (hi - lo + 1) = r at *
  have w5 : IntKind.i64.wrap (lo + r) = v := by rw [IntWalk.i64_in _ (by omega)]; exact e1
  clear e0 e1 hv
  go_enter Try.func41, Try.ntmps41
  go_upto_region 1 with fail
  refine wp_world (fun W => Below w.heap.size w W ∧ Blk W w.heap.size 23 #[.int .i64 lo, .int .i64 hi]) ⟨(Below.refl _ _).alloc (Nat.le_refl _) _, Blk.new _ _ _⟩ ?_
  rintro W0 ⟨hB, b0⟩
  obtain ⟨x0, x1, _, _⟩ := b0.facts2
  have x0' := fun d os => cell_regrown x0 d os
  have x1' := fun d os => cell_regrown x1 d os
  refine wp_region_quiet_below (by kernel_rfl) (by kernel_rfl) ?_
  repeat (quiet_step (fail))
  refine wpQuiet_nil ?_
  intro _ hw'
  obtain ⟨⟨dq, osq⟩, hw''⟩ := hw'
  subst hw''
  replace hB := hB.trans ((below_regrown W0 dq osq).mono hB.size)
  clear x0 x1 x0' x1' b0
  generalize grow (redrawn W0 dq) osq = W1 at *
  go_wp2
  go_ret
  exact ⟨rfl, hB⟩

theorem le_of_mul {a b c : Int} (hc : 0 < c) (h : c * a ≤ c * b) : a ≤ b := Int.le_of_mul_le_mul_left h hc
/-- all that the statement asks of a mash, in numbers -/
theorem mash_true {g m x1 x2 h1 h2 x h : Int} (ok : MashOk g m x1 x2 h1 h2) (hv : ¬ volLo g m h2 < 1) (hx : x1 ≤ x ∧ x ≤ x2) (hh : h1 ≤ h ∧ h ≤ h2) :
    (1000 * volLo g m h2 ≤ 1000 * m - g * h ∧ 1000 * m - g * h ≤ 1000 * volHi g m h1) ∧ (0 ≤ g * x1 * volLo g m h2 / (1000 * m) ∧ g * x1 * volLo g m h2 / (1000 * m) ≤ upQ (g * x2 * volHi g m h1) (1000 * m)) ∧
    (0 ≤ g * x1 * (m - volHi g m h1) / (1000 * m) ∧ g * x1 * (m - volHi g m h1) / (1000 * m) ≤ upQ (g * x2 * (m - volLo g m h2)) (1000 * m)) ∧
    g * x1 * volLo g m h2 / (1000 * m) + g * x1 * (m - volHi g m h1) / (1000 * m) ≤ (g * x + 999) / 1000 ∧ g * x ≤ 1000 * (upQ (g * x2 * volHi g m h1) (1000 * m) + upQ (g * x2 * (m - volLo g m h2)) (1000 * m)) ∧
    1000 * m * (g * x1 * volLo g m h2 / (1000 * m)) ≤ g * x * ((1000 * m - g * h + 999) / 1000) ∧ g * x * ((1000 * m - g * h) / 1000) ≤ 1000 * m * upQ (g * x2 * volHi g m h1) (1000 * m) ∧
    1000 * m * (g * x1 * (m - volHi g m h1) / (1000 * m)) ≤ g * x * (m - (1000 * m - g * h) / 1000) ∧ g * x * (m - (1000 * m - g * h + 999) / 1000) ≤ 1000 * m * upQ (g * x2 * (m - volLo g m h2)) (1000 * m) := by
  obtain ⟨⟨a1, a2⟩, ⟨a3, a4⟩, ⟨a5, a6⟩, ⟨a7, a8⟩, a9, a10⟩ := vol_bd ok
  obtain ⟨⟨g0, g1⟩, ⟨m0, m1⟩, ⟨xa, xb, xc⟩, ⟨ha, hb, hc⟩⟩ := ok
  have X1 : g * x1 ≤ g * x := Int.mul_le_mul_of_nonneg_left hx.1 (by omega)
  have X2 : g * x ≤ g * x2 := Int.mul_le_mul_of_nonneg_left hx.2 (by omega)
  have X0 : 0 ≤ g * x1 := Int.mul_nonneg (by omega) xa
  have H1 : g * h1 ≤ g * h := Int.mul_le_mul_of_nonneg_left hh.1 (by omega)
  have H2 : g * h ≤ g * h2 := Int.mul_le_mul_of_nonneg_left hh.2 (by omega)
  have hu : volLo g m h2 = m - upQ (g * h2) 1000 := rfl
  have hw : volHi g m h1 = m - g * h1 / 1000 := rfl
  have U := @le_upQ (g * h2) 1000 (by omega)
  have D := @dn_le (g * h1) 1000 (by omega)
  have hM : 0 < 1000 * m := by omega
  generalize volLo g m h2 = v1 at *
  generalize volHi g m h1 = v2 at *
  generalize g * x1 = Y1 at *
  generalize g * x2 = Y2 at *
  generalize g * x = X at *
  generalize g * h = H at *
  have v0 : 1 ≤ v1 := by omega
  have s1 : 1000 * m * (Y1 * v1 / (1000 * m)) ≤ Y1 * v1 := by rw [Int.mul_comm]; exact dn_le hM
  have s2 : Y2 * v2 ≤ 1000 * m * upQ (Y2 * v2) (1000 * m) := by rw [Int.mul_comm (1000 * m)]; exact le_upQ hM
  have l1 : 1000 * m * (Y1 * (m - v2) / (1000 * m)) ≤ Y1 * (m - v2) := by rw [Int.mul_comm]; exact dn_le hM
  have l2 : Y2 * (m - v1) ≤ 1000 * m * upQ (Y2 * (m - v1)) (1000 * m) := by rw [Int.mul_comm (1000 * m)]; exact le_upQ hM
  have n1 : 0 ≤ Y1 * v1 := Int.mul_nonneg X0 (by omega)
  have n2 : 0 ≤ Y1 * (m - v2) := Int.mul_nonneg X0 (by omega)
  have p1 : Y1 * v1 ≤ Y2 * v2 := prod_mono X0 (by omega) (by omega) (by omega)
  have p2 : Y1 * (m - v2) ≤ Y2 * (m - v1) := prod_mono X0 (by omega) (by omega) (by omega)
  have q1 : Y1 * v1 / (1000 * m) ≤ upQ (Y2 * v2) (1000 * m) := Int.le_trans (dn_mono hM p1) (by unfold upQ; exact Int.ediv_le_ediv hM (by omega))
  have q2 : Y1 * (m - v2) / (1000 * m) ≤ upQ (Y2 * (m - v1)) (1000 * m) := Int.le_trans (dn_mono hM p2) (by unfold upQ; exact Int.ediv_le_ediv hM (by omega))
  have z1 : 0 ≤ Y1 * v1 / (1000 * m) := Int.ediv_nonneg n1 (by omega)
  have z2 : 0 ≤ Y1 * (m - v2) / (1000 * m) := Int.ediv_nonneg n2 (by omega)
  generalize Y1 * v1 / (1000 * m) = S1 at *
  generalize upQ (Y2 * v2) (1000 * m) = S2 at *
  generalize Y1 * (m - v2) / (1000 * m) = L1 at *
  generalize upQ (Y2 * (m - v1)) (1000 * m) = L2 at *
  have c1 : 1000 * (S1 + L1) ≤ X := by
    refine le_of_mul (c := m) (by omega) ?_
    have e1 : m * (1000 * (S1 + L1)) = 1000 * m * S1 + 1000 * m * L1 := by rw [← Int.mul_assoc, Int.mul_comm m 1000, Int.mul_add]
    have e2 : Y1 * v1 + Y1 * (m - v2) = Y1 * (m + (v1 - v2)) := by rw [← Int.mul_add]; congr 1; omega
    have e3 : Y1 * (m + (v1 - v2)) ≤ X * m := prod_mono X0 X1 (by omega) (by omega)
    rw [e1, Int.mul_comm m X]
    omega
  have c2 : X ≤ 1000 * (S2 + L2) := by
    refine le_of_mul (c := m) (by omega) ?_
    have e1 : m * (1000 * (S2 + L2)) = 1000 * m * S2 + 1000 * m * L2 := by rw [← Int.mul_assoc, Int.mul_comm m 1000, Int.mul_add]
    have e2 : Y2 * v2 + Y2 * (m - v1) = Y2 * (m + (v2 - v1)) := by rw [← Int.mul_add]; congr 1; omega
    have e3 : X * m ≤ Y2 * (m + (v2 - v1)) := prod_mono (by omega) X2 (by omega) (by omega)
    rw [e1, Int.mul_comm m X]
    omega
  have up1 : v1 ≤ (1000 * m - H + 999) / 1000 := by omega
  have up2 : (1000 * m - H + 999) / 1000 ≤ m := by omega
  have dn1 : (1000 * m - H) / 1000 ≤ v2 := by omega
  have dn2 : 0 ≤ (1000 * m - H) / 1000 := by omega
  refine ⟨⟨by omega, by omega⟩, ⟨z1, q1⟩, ⟨z2, q2⟩, by omega, c2, ?_, ?_, ?_, ?_⟩
  · exact Int.le_trans s1 (prod_mono X0 X1 (by omega) up1)
  · exact Int.le_trans (prod_mono (by omega) X2 dn2 dn1) s2
  · exact Int.le_trans l1 (prod_mono X0 X1 (by omega) (by omega))
  · exact Int.le_trans (prod_mono (by omega) X2 (by omega) (by omega)) l2
end Go.Proofs.Ytjcadgklamhohaa
