/- Water, whatever the part and the target are. -/
import Derived.Test.YtcghafdemklnnaaPart
namespace Go.Proofs.Ytcghafdemklnnaa
open Go.RowKit Go.Sort
attribute [local go_sem] Oper.calm Oper.calmAt Oper.calmUpon

def WaterIs (al ah sl sh t a k : Int) : Prop :=
  (¬ PartOk ⟨al, ah, sl, sh⟩ ∧ a = 0 ∧ k = 1) ∨ (PartOk ⟨al, ah, sl, sh⟩ ∧ ((¬ (1 ≤ t ∧ t ≤ 10000) ∧ a = 0 ∧ k = 2) ∨ ((1 ≤ t ∧ t ≤ 10000) ∧
  ((sl < t ∧ a = 0 ∧ k = 11) ∨ (t ≤ sl ∧ a = min (al * (sl - t) / t) (1099511627776 - ah) ∧ k = 0)))))
def IntErr (p : Int → Int → Prop) (w : World) (e : Ending) (w' : World) : Prop := ∃ a k : Int, e = .returned (.tuple #[.int .i64 a, .int .i64 k]) ∧ p a k ∧ Below w.heap.size w w'

set_option maxHeartbeats 4000000 in
set_option maxRecDepth 100000 in
theorem Water_any (al ah sl sh t : Int) (w : World) :
    Calls Try.prog 30 #[.agg #[.int .i64 al, .int .i64 ah, .int .i64 sl, .int .i64 sh], .int .i64 t] w (IntErr (WaterIs al ah sl sh t) w) := by
  have hv := Lib.hid fun W => validPart_any al ah sl sh W
  go_enter Try.func30, Try.ntmps30
  go_wp2_with fail
  refine calls_world (fun W => Below w.heap.size w W ∧ Blk W w.heap.size 41 #[.int .i64 al, .int .i64 ah, .int .i64 sl, .int .i64 sh]) ⟨(Below.refl _ _).alloc (Nat.le_refl _) _, Blk.new _ _ _⟩ ?_
  rintro W0 ⟨hB0, b0⟩
  refine (hv.out _).mono ?_
  rintro e W1 ⟨r, rfl, hr, hb1⟩
  have hB1 := hB0.trans (hb1.mono hB0.size)
  replace b0 := b0.below hb1 b0.lt
  clear hb1 hB0 hv
  obtain ⟨x0, x1, x2, x3, _, _, _, _⟩ := b0.facts4
  cases r with
  | false =>
    have hnf := Lib.hid (show WaterIs al ah sl sh t 0 1 from .inl ⟨fun h => Bool.noConfusion (hr.2 h), rfl, rfl⟩)
    clear hr
    go_wp2_with fail
    go_ret2
    exact ⟨_, _, rfl, hnf.out, hB1⟩
  | true =>
    have hok := hr.1 rfl
    clear hr
    by_cases c1 : t < 1
    · have hnf := Lib.hid (show WaterIs al ah sl sh t 0 2 from .inr ⟨hok, .inl ⟨by omega, rfl, rfl⟩⟩)
      clear hok
      go_wp2_with fail
      go_ret2
      exact ⟨_, _, rfl, hnf.out, hB1⟩
    · by_cases c2 : 10000 < t
      · have hnf := Lib.hid (show WaterIs al ah sl sh t 0 2 from .inr ⟨hok, .inl ⟨by omega, rfl, rfl⟩⟩)
        clear hok
        go_wp2_with fail
        go_ret2
        exact ⟨_, _, rfl, hnf.out, hB1⟩
      · obtain ⟨⟨h1, h2, h3⟩, h4, h5, h6⟩ := id hok
        dsimp only at h1 h2 h3 h4 h5 h6
        by_cases c3 : sl - t < 0
        · have hnf := Lib.hid (show WaterIs al ah sl sh t 0 11 from .inr ⟨hok, .inr ⟨by omega, .inl ⟨by omega, rfl, rfl⟩⟩⟩)
          clear hok
          go_wp2_with fail
          go_ret2
          exact ⟨_, _, rfl, hnf.out, hB1⟩
        · have hnf := Lib.hid (show WaterIs al ah sl sh t (min (al * (sl - t) / t) (1099511627776 - ah)) 0 from .inr ⟨hok, .inr ⟨by omega, .inr ⟨by omega, rfl, rfl⟩⟩⟩)
          have e1 : al * (sl - t) ≤ 1099511627776 * 10000 := Int.mul_le_mul (by omega) (by omega) (by omega) (by omega)
          have e2 : 0 ≤ al * (sl - t) := Int.mul_nonneg h2 (by omega)
          have e3 : al * (sl - t) / t ≤ al * (sl - t) := Int.ediv_le_self _ e2
          have e4 : 0 ≤ al * (sl - t) / t := Int.ediv_nonneg e2 (by omega)
          obtain ⟨v, hv⟩ : ∃ v, al * (sl - t) / t = v := ⟨_, rfl⟩
          rw [hv] at e3 e4 hnf
          have hdn := Lib.hid fun W => partDown_any divFor_small al (sl - t) t v W (by omega) (by omega) (by omega) (by omega) (by omega) (by omega) (by omega) hv (by omega)
          have v1 : v ≤ 10995116277760000 := by omega
          clear hv e1 e2 e3 hok
          have x0' := fun d os => cell_regrown x0 d os
          have x1' := fun d os => cell_regrown x1 d os
          have hw1 : IntKind.i64.wrap (1099511627776 - ah) = 1099511627776 - ah := IntWalk.i64_in _ (by omega)
          go_upto_region 8 with fail
          refine wp_region_quiet_below (by kernel_rfl) (by kernel_rfl) ?_
          repeat (quiet_step (first | (go_at_call 61; exact quiet_call (fun W1 _ => hdn.out W1))))
          refine wpQuiet_nil ?_
          intro _ hw'
          obtain ⟨⟨dq, osq⟩, hw''⟩ := hw'
          subst hw''
          have hb2 := below_regrown W1 dq osq
          have hB2 := hB1.trans (hb2.mono hB1.size)
          have hmin : (if 1099511627776 - ah < v then 1099511627776 - ah else v) = min v (1099511627776 - ah) := by split <;> omega
          rw [← hmin] at hnf
          clear x0 x1 x2 x3 x0' x1' hdn hmin hb2 b0 hB1
          generalize (if 1099511627776 - ah < v then 1099511627776 - ah else v) = z at *
          generalize grow (redrawn W1 dq) osq = W2 at *
          go_wp2
          go_ret2
          exact ⟨_, _, rfl, hnf.out, hB2⟩
end Go.Proofs.Ytcghafdemklnnaa
