/- What the document's own package answers for a mixture. -/
import Derived.Test.YtcghafdemklnnaaRefMix
namespace Go.Proofs.Ytcghafdemklnnaa
open Go.RowKit Go.Sort
attribute [local go_sem] Oper.calm Oper.calmAt Oper.calmUpon

theorem mixIs_sums {ps : List PartV} (hall : ∀ p ∈ ps, PartOk p) : 0 ≤ sumI (·.al) ps ∧ sumI (·.al) ps ≤ sumI (·.ah) ps ∧ 0 ≤ sumI pureLo ps ∧ sumI pureLo ps ≤ sumI (·.al) ps ∧ 0 ≤ sumI pureHi ps ∧ sumI pureHi ps ≤ sumI (·.ah) ps := by
  have g1 := sumI_bd (f := (·.al)) (B := 1099511627776) (by omega) ps (fun q hq => by have := (hall q hq).1; exact ⟨by omega, by omega⟩)
  have g2 : sumI (·.al) ps ≤ sumI (·.ah) ps := sumI_le ps fun q hq => (hall q hq).1.1
  have g3 := sumI_bd (f := pureLo) (B := 1099511627776) (by omega) ps (fun q hq => by have := pure_bd (hall q hq); exact ⟨by omega, by omega⟩)
  have g4 := sumI_bd (f := pureHi) (B := 1099511627776) (by omega) ps (fun q hq => by have := pure_bd (hall q hq); exact ⟨by omega, by omega⟩)
  have g5 : sumI pureLo ps ≤ sumI (·.al) ps := sumI_le ps fun q hq => (pure_le (hall q hq)).1
  have g6 : sumI pureHi ps ≤ sumI (·.ah) ps := sumI_le ps fun q hq => (pure_le (hall q hq)).2
  omega

set_option maxHeartbeats 16000000 in
set_option maxRecDepth 100000 in
theorem refMix_any (A : Option Addr) (c : Nat) (ps : List PartV) (s : Int) (w : World) (hn : ps.length ≤ 140737488355328) (hp : Hid (PartsAt w A ps)) (s1 : -9223372036854775808 ≤ s) (s2 : s ≤ 9223372036854775807) :
    Calls Try.prog 29 #[.slice A ps.length c, .int .i64 s] w (PartErr (MixIs ps s) w) := by
  have hfail : ∀ k : Int, MixIs ps s 0 0 0 0 k → ∀ W', Below w.heap.size w W' → PartErr (MixIs ps s) w (.returned (.tuple #[.agg #[.int .i64 0, .int .i64 0, .int .i64 0, .int .i64 0], .int .i64 k])) W' := fun k h W' hb => ⟨0, 0, 0, 0, k, rfl, h, hb⟩
  replace hfail := Lib.hid hfail
  by_cases c0 : 64 < ps.length
  · have c0' : (64 : Int) < ps.length := by omega
    have hnf := Lib.hid (show MixIs ps s 0 0 0 0 3 from .inl ⟨c0, rfl, rfl, rfl, rfl, rfl⟩)
    go_enter Try.func29, Try.ntmps29
    go_wp2
    refine ret_world (fun W => Below w.heap.size w W ∧ Blk W w.heap.size 41 #[.int .i64 0, .int .i64 0, .int .i64 0, .int .i64 0])
      ⟨(Below.refl _ _).alloc (Nat.le_refl _) _, Blk.new _ _ _⟩ ?_
    rintro W ⟨hB, b0⟩
    obtain ⟨x0, x1, x2, x3, _, _, _, _⟩ := b0.facts4
    refine bodyPost_ret (v := .tuple #[.agg #[.int .i64 0, .int .i64 0, .int .i64 0, .int .i64 0], .int .i64 3]) (by simp [results, Try.results29, go_sem, x0, x1, x2, x3]) rfl (hfail.out 3 hnf.out _ hB)
  · have c0' : (ps.length : Int) ≤ 64 := by omega
    go_enter Try.func29, Try.ntmps29
    go_wp2
    go_loopw [6, 7, 9, 10] (fun s6 s7 i _ wr => ∃ k : Nat, k ≤ ps.length ∧ i = .int .i64 k ∧ s6 = .int .i64 (sumI (·.al) (ps.take k)) ∧ s7 = .int .i64 (sumI (·.ah) (ps.take k)) ∧ Below w.heap.size w wr ∧ Blk wr w.heap.size 41 #[.int .i64 0, .int .i64 0, .int .i64 0, .int .i64 0] ∧ Blk wr (w.heap.size + 1) 27 #[.int .i64 (sumI pureLo (ps.take k)), .int .i64 (sumI pureHi (ps.take k))] ∧ Hid (∀ j, j < k → ∀ p, ps[j]? = some p → PartOk p)) (fun _ _ i _ _ => ps.length - (intOf i).toNat)
    case atStart => exact ⟨0, Nat.zero_le _, rfl, rfl, rfl, ((Below.refl _ _).alloc (Nat.le_refl _) _).alloc (by simp) _, (Blk.new _ _ _).alloc _, blk_at (by simp), Lib.hid fun j hj => absurd hj (Nat.not_lt_zero _)⟩
    case round =>
      obtain ⟨k, hk, rfl, rfl, rfl, hB0, b0, b1, hgood⟩ := hrel
      by_cases hlt : k < ps.length
      · obtain ⟨b, off, hA, hbl, hcells⟩ := hp.out (by omega)
        obtain ⟨p, hpk⟩ : ∃ p, ps[k]? = some p := ⟨_, List.getElem?_eq_getElem hlt⟩
        obtain ⟨k1, k2, k3, k4⟩ := hcells k p hpk
        have hnext : Hid (PartOk p → ∀ j, j < k + 1 → ∀ p, ps[j]? = some p → PartOk p) := Lib.hid fun h1 j hj q hq => by
          rcases Nat.lt_or_ge j k with h | h
          · exact hgood.out j h q hq
          · have : j = k := by omega
            subst this
            rw [hpk] at hq
            cases hq
            exact h1
        have hbad : Hid (¬ PartOk p → MixIs ps s 0 0 0 0 1) := Lib.hid fun h1 => .inr ⟨by omega, .inl ⟨fun h => h1 (h p (List.mem_of_getElem? hpk)), rfl, rfl, rfl, rfl, rfl⟩⟩
        have hokt : ∀ q ∈ ps.take k, PartOk q := fun q hq => by
          obtain ⟨j, hj⟩ := List.mem_iff_getElem?.1 hq
          have hjk : j < k := by
            have := (List.getElem?_eq_some_iff.1 hj).1
            simp at this; omega
          exact hgood.out j hjk q (by rw [List.getElem?_take] at hj; simpa [hjk] using hj)
        obtain ⟨g1, g2, g3, g4, g5, g6⟩ := mixIs_sums hokt
        have g7 := sumI_bd (f := (·.ah)) (B := 1099511627776) (by omega) (ps.take k) (fun q hq => by have := (hokt q hq).1; exact ⟨by omega, by omega⟩)
        have g8 : ((ps.take k).length : Int) * 1099511627776 ≤ 64 * 1099511627776 := Int.mul_le_mul_of_nonneg_right (by simp; omega) (by omega)
        have g9 : sumI (·.ah) (ps.take k) ≤ 70368744177664 := by omega
        have hnx1 := sumI_take (f := (·.al)) hpk
        have hnx2 := sumI_take (f := (·.ah)) hpk
        have hnx3 := sumI_take (f := pureLo) hpk
        have hnx4 := sumI_take (f := pureHi) hpk
        obtain ⟨al, ah, sl, sh⟩ := p
        have hv := Lib.hid fun W => refPart_any al ah sl sh W
        dsimp only at k1 k2 k3 k4 hnx1 hnx2
        have kf : ∀ W, Below w.heap.size w W → W.cell? ⟨b, off + k * 4, none⟩ = some (.int .i64 al) ∧ W.cell? ⟨b, off + k * 4 + 1, none⟩ = some (.int .i64 ah) ∧ W.cell? ⟨b, off + k * 4 + 2, none⟩ = some (.int .i64 sl) ∧ W.cell? ⟨b, off + k * 4 + 3, none⟩ = some (.int .i64 sh) := fun W hb => ⟨cell_later hb k1, cell_later hb k2, cell_later hb k3, cell_later hb k4⟩
        replace kf := Lib.hid kf
        subst hA
        clear hp hcells hpk k1 k2 k3 k4 hokt g7 g8 hgood
        replace hnx1 := Lib.hid hnx1
        replace hnx2 := Lib.hid hnx2
        replace hnx3 := Lib.hid hnx3
        replace hnx4 := Lib.hid hnx4
        generalize sumI (·.al) (ps.take k) = a1 at *
        generalize sumI (·.ah) (ps.take k) = a2 at *
        generalize sumI pureLo (ps.take k) = a3 at *
        generalize sumI pureHi (ps.take k) = a4 at *
        obtain ⟨k1, k2, k3, k4⟩ := kf.out _ hB0
        go_wp2_with fail
        refine (hv.out _).mono ?_
        rintro e W1 ⟨r, rfl, hr, hb1⟩
        have hB1 := hB0.trans (hb1.mono hB0.size)
        replace b0 := b0.below hb1 b0.lt
        replace b1 := b1.below hb1 b1.lt
        clear hb1 hB0 hv k1 k2 k3 k4
        cases r with
        | false =>
          have hnf := Lib.hid (hbad.out (fun h => Bool.noConfusion (hr.2 h)))
          obtain ⟨x0, x1, x2, x3, _, _, _, _⟩ := b0.facts4
          clear hr hbad hnext
          go_wp2_with fail
          refine bodyPost_ret (v := .tuple #[.agg #[.int .i64 0, .int .i64 0, .int .i64 0, .int .i64 0], .int .i64 1]) (by simp [results, Try.results29, go_sem, x0, x1, x2, x3]) rfl ?_
          exact hfail.out 1 hnf.out _ ((((hB1.setCell (by simp only; omega) _).setCell (by simp only; omega) _).setCell (by simp only; omega) _).setCell (by simp only; omega) _)
        | true =>
          have hok := hr.1 rfl
          have hnx := Lib.hid (hnext.out hok)
          have hpu := Lib.hid fun W => refpure_any al ah sl sh W hok
          have hpb := pure_bd hok
          clear hr hbad hnext
          obtain ⟨⟨o1, o2, o3⟩, o4, o5, o6⟩ := hok
          dsimp only at o1 o2 o3
          generalize pureLo ⟨al, ah, sl, sh⟩ = ql at *
          generalize pureHi ⟨al, ah, sl, sh⟩ = qh at *
          obtain ⟨k1, k2, k3, k4⟩ := kf.out _ hB1
          have k1' := fun d os => cell_regrown k1 d os
          have k2' := fun d os => cell_regrown k2 d os
          have k3' := fun d os => cell_regrown k3 d os
          have k4' := fun d os => cell_regrown k4 d os
          have n1 := b1.lt
          go_upto_region 12 with fail
          refine wp_region_one_below 11 10 27 #[.int .i64 0, .int .i64 0] (by kernel_rfl) (by kernel_rfl) ⟨_, rfl, rfl, rfl, fun a w => by kernel_rfl⟩ (by kernel_rfl) (by kernel_rfl) ?_
          simp only [List.take_succ_cons, List.take_zero, List.drop_succ_cons, List.drop_zero]
          repeat ((refine wpCalm_step (fun K hK => ?_)); go_simp; first | (refine hK _ ?_; clear hK K) | (apply Exists.intro; refine ⟨fun _ => ?_, hK _ ?_⟩; (first | (go_at_call 65; exact calm_call (fun W1 _ => hpu.out W1))); clear hK K))
          refine wpCalm_nil ?_
          intro w7 g1' hb7 hV hg1
          simp only [Act.put, List.setIfInBounds_toArray, List.set_cons_zero, List.set_cons_succ]
          have hB7 := hB1.trans (hb7.mono hB1.size)
          have n00 := hB1.size
          have ne0 : w.heap.size ≠ g1' := by omega
          have ne1 : w.heap.size + 1 ≠ g1' := by omega
          replace b0 := b0.below hb7 b0.lt
          replace b1 := b1.below hb7 b1.lt
          clear k1 k2 k3 k4 k1' k2' k3' k4' hpu hb7 hB1 kf
          obtain ⟨y0, y1, y2, y3⟩ := hV.facts2
          go_upto_region 13 with fail
          refine wp_world (fun W => Below w.heap.size w W ∧ Blk W w.heap.size 41 #[.int .i64 0, .int .i64 0, .int .i64 0, .int .i64 0] ∧ Blk W (w.heap.size + 1) 27 #[.int .i64 a3, .int .i64 a4] ∧ Blk W g1' 27 #[.int .i64 ql, .int .i64 qh])
            ⟨(hB7.setCell (by simp only; omega) _).setCell (by simp only; omega) _, (b0.far ne0 _).far ne0 _, (b1.far ne1 _).far ne1 _, (hV.set_ 0 _).set_ 1 _⟩ ?_
          clear y0 y1 y2 y3 hV b0 b1 hB7
          rintro W8 ⟨hB8, b0, b1, hV⟩
          obtain ⟨y0, y1, _, _⟩ := hV.facts2
          obtain ⟨x0, x1, x2, x3⟩ := b1.facts2
          go_wp2_with fail
          go_roundw
          case rel => exact ⟨k + 1, by omega, by go_num, by rw [hnx1.out], by rw [hnx2.out], (hB8.setCell (by simp only; omega) _).setCell (by simp only; omega) _, (b0.far (by simp only; omega) _).far (by simp only; omega) _, by rw [hnx3.out, hnx4.out]; exact (b1.set_ 0 _).set_ 1 _, hnx⟩
          case measure => simp [intOf]; omega
      · have hk' : k = ps.length := by omega
        subst hk'
        rw [List.take_length] at b1 ⊢
        have hall : ∀ p ∈ ps, PartOk p := fun p hp => by
          obtain ⟨j, hj⟩ := List.mem_iff_getElem?.1 hp
          exact hgood.out j (List.getElem?_eq_some_iff.1 hj).1 p hj
        obtain ⟨g1, g2, g3, g4, g5, g6⟩ := mixIs_sums hall
        have h0 : ps.length ≤ 64 := by omega
        replace hall := Lib.hid hall
        have hin := Lib.hid fun W => refin_any s 0 1000 W
        clear hgood hp
        have hfin := Lib.hid (show ∀ a1 a2 a3 a4 : Int, sumI (·.al) ps = a1 → sumI (·.ah) ps = a2 → sumI pureLo ps = a3 → sumI pureHi ps = a4 → ((¬ (0 ≤ s ∧ s ≤ 1000) → MixIs ps s 0 0 0 0 2) ∧ ((0 ≤ s ∧ s ≤ 1000) → (1099511627776 < a2 → MixIs ps s 0 0 0 0 11) ∧ (a2 ≤ 1099511627776 → a1 = 0 → MixIs ps s 0 0 0 0 4) ∧ (a2 ≤ 1099511627776 → a1 ≠ 0 → MixIs ps s (mixAl a1 s) a2 (mixSl a2 a3) (mixSh a1 a4 s) 0))) from by
          rintro _ _ _ _ rfl rfl rfl rfl
          exact ⟨fun h => .inr ⟨h0, .inr ⟨hall.out, .inl ⟨h, rfl, rfl, rfl, rfl, rfl⟩⟩⟩, fun c1 => ⟨fun h => .inr ⟨h0, .inr ⟨hall.out, .inr ⟨c1, .inl ⟨h, rfl, rfl, rfl, rfl, rfl⟩⟩⟩⟩, fun h h' => .inr ⟨h0, .inr ⟨hall.out, .inr ⟨c1, .inr ⟨h, .inl ⟨h', rfl, rfl, rfl, rfl, rfl⟩⟩⟩⟩⟩, fun h h' => .inr ⟨h0, .inr ⟨hall.out, .inr ⟨c1, .inr ⟨h, .inr ⟨h', rfl, rfl, rfl, rfl, rfl⟩⟩⟩⟩⟩⟩⟩)
        replace hfin := hfin.out _ _ _ _ rfl rfl rfl rfl
        generalize sumI (·.al) ps = a1 at *
        generalize sumI (·.ah) ps = a2 at *
        generalize sumI pureLo ps = a3 at *
        generalize sumI pureHi ps = a4 at *
        replace hfin := Lib.hid hfin
        obtain ⟨x0, x1, x2, x3, _, _, _, _⟩ := b0.facts4
        have n1 := b1.lt
        go_wp2_with fail
        refine (hin.out _).mono ?_
        rintro e wr' ⟨rfl, rfl⟩
        by_cases c1 : 0 ≤ s ∧ s ≤ 1000
        · have c1' : decide (0 ≤ s ∧ s ≤ 1000) = true := by simpa using c1
          rw [c1']
          clear c1'
          have hfin2 := Lib.hid (hfin.out.2 c1)
          clear hfin
          obtain ⟨c11, c12⟩ := c1
          by_cases c2 : 1099511627776 < a2
          · have hnf := Lib.hid (hfail.out 11 (hfin2.out.1 c2))
            clear hfin2 hfail
            go_wp2_with fail
            refine bodyPost_ret (v := .tuple #[.agg #[.int .i64 0, .int .i64 0, .int .i64 0, .int .i64 0], .int .i64 11]) (by simp [results, Try.results29, go_sem, x0, x1, x2, x3]) rfl ?_
            exact hnf.out _ ((((hB0.setCell (by simp only; omega) _).setCell (by simp only; omega) _).setCell (by simp only; omega) _).setCell (by simp only; omega) _)
          · by_cases c3 : a1 = 0
            · have hnf := Lib.hid (hfail.out 4 (hfin2.out.2.1 (by omega) c3))
              have c3' : (a1 == 0) = true := by simpa using c3
              have c2' : decide (1099511627776 < a2) = false := by simpa using c2
              clear hfin2 hfail c3
              go_wp2_with fail
              refine bodyPost_ret (v := .tuple #[.agg #[.int .i64 0, .int .i64 0, .int .i64 0, .int .i64 0], .int .i64 4]) (by simp [results, Try.results29, go_sem, x0, x1, x2, x3]) rfl ?_
              exact hnf.out _ ((((hB0.setCell (by simp only; omega) _).setCell (by simp only; omega) _).setCell (by simp only; omega) _).setCell (by simp only; omega) _)
            · have c3' : (a1 == 0) = false := by simpa using c3
              have c2' : decide (1099511627776 < a2) = false := by simpa using c2
              have hnf : ∀ W', Below w.heap.size w W' → PartErr (MixIs ps s) w (.returned (.tuple #[.agg #[.int .i64 (mixAl a1 s), .int .i64 a2, .int .i64 (mixSl a2 a3), .int .i64 (mixSh a1 a4 s)], .int .i64 0])) W' := fun W' hb => ⟨_, _, _, _, 0, rfl, hfin2.out.2.2 (by omega) c3, hb⟩
              have m0 : 0 < a1 * (10000 - s) := Int.mul_pos (by omega) (by omega)
              have m1 : a1 * (10000 - s) ≤ 1099511627776 * 10000 := Int.mul_le_mul (by omega) (by omega) (by omega) (by omega)
              have m2 : a3 * 10000 / a2 ≤ 10000 := by
                have : a3 * 10000 / a2 < 10001 := (Int.ediv_lt_iff_lt_mul (by omega)).2 (by omega)
                omega
              have m3 : 0 ≤ a3 * 10000 / a2 := Int.ediv_nonneg (by omega) (by omega)
              have hup := Lib.hid fun W => refup_any (a4 * 10000) (a1 * (10000 - s)) W (by omega) m0 (by omega)
              have hsl : mixSl a2 a3 = a3 * 10000 / a2 := rfl
              have hal : mixAl a1 s = a1 * (10000 - s) / 10000 := rfl
              have hsh : mixSh a1 a4 s = min (upDiv (a4 * 10000 * 10000) (a1 * (10000 - s))) 10000 := rfl
              rw [hsl, hal, hsh] at hnf
              replace hnf := Lib.hid hnf
              clear hsl hal hsh hfin2 hfail x0 x1 x2 x3
              generalize min (upDiv (a4 * 10000 * 10000) (a1 * (10000 - s))) 10000 = v4 at *
              have az : a2 ≠ 0 := by omega
              have wd : IntKind.i64.wrap ((a3 * 10000).tdiv a2) = a3 * 10000 / a2 := by rw [Int.tdiv_eq_ediv_of_nonneg (by omega)]; exact IntWalk.i64_in _ (by omega)
              have wl : IntKind.i64.wrap (a1 * (10000 - s)) = a1 * (10000 - s) := IntWalk.i64_in _ (by omega)
              have wl2 : IntKind.i64.wrap (a1 * (10000 - s) / 10000) = a1 * (10000 - s) / 10000 := IntWalk.i64_in _ (by omega)
              have w3 : IntKind.i64.wrap (a3 * 10000) = a3 * 10000 := IntWalk.i64_in _ (by omega)
              have w4 : IntKind.i64.wrap (a4 * 10000) = a4 * 10000 := IntWalk.i64_in _ (by omega)
              have wm : min 10000 (a3 * 10000 / a2) = a3 * 10000 / a2 := by omega
              obtain ⟨y0, y1, _, _⟩ := b1.facts2
              have y0' := fun d os => cell_regrown y0 d os
              have y1' := fun d os => cell_regrown y1 d os
              go_upto_region 21 with fail
              refine wp_region_below_tail 17 (by kernel_rfl) (by kernel_rfl) ?_
              simp only [List.take_succ_cons, List.take_zero, List.drop_succ_cons, List.drop_zero]
              repeat (quiet_step (first | (go_at_call 71; exact quiet_call (fun W1 _ => (hup.out W1).mono (fun _ _ h => ⟨h.1, by rw [h.2]; exact Below.refl _ _⟩)))))
              refine wpQuiet_nil ?_
              intro _ hw'
              obtain ⟨⟨dq, osq⟩, hw''⟩ := hw'
              subst hw''
              have hb9 := below_regrown wr' dq osq
              replace b0 := b0.below hb9 b0.lt
              have hB9 := hB0.trans (hb9.mono hB0.size)
              clear y0 y1 y0' y1' b1 hb9 hB0 hup wd wl wl2 w3 w4 wm
              generalize grow (redrawn wr' dq) osq = W9 at b0 hB9 ⊢
              obtain ⟨x0, x1, x2, x3, _, _, _, _⟩ := b0.facts4
              go_wp2
              refine bodyPost_ret (v := .tuple #[.agg #[.int .i64 (a1 * (10000 - s) / 10000), .int .i64 a2, .int .i64 (a3 * 10000 / a2), .int .i64 v4], .int .i64 0]) (by simp [results, Try.results29, go_sem, x0, x1, x2, x3]) rfl ?_
              exact hnf.out _ ((((hB9.setCell (by simp only; omega) _).setCell (by simp only; omega) _).setCell (by simp only; omega) _).setCell (by simp only; omega) _)
        · have c1' : decide (0 ≤ s ∧ s ≤ 1000) = false := by simpa using c1
          rw [c1']
          have hnf := Lib.hid (hfail.out 2 (hfin.out.1 c1))
          clear c1' c1 hfin hfail
          go_wp2_with fail
          refine bodyPost_ret (v := .tuple #[.agg #[.int .i64 0, .int .i64 0, .int .i64 0, .int .i64 0], .int .i64 2]) (by simp [results, Try.results29, go_sem, x0, x1, x2, x3]) rfl ?_
          exact hnf.out _ ((((hB0.setCell (by simp only; omega) _).setCell (by simp only; omega) _).setCell (by simp only; omega) _).setCell (by simp only; omega) _)
end Go.Proofs.Ytcghafdemklnnaa
