/- StillKinds: its model is true. -/
import Derived.Test.YtnfahoomoelmcaaSyL5
import Derived.Test.YtnfahoomoelmcaaMaCuts
namespace Go.Proofs.Ytnfahoomoelmcaa
open Go.RowKit Go.Proofs.Try

def kindB (b1 b2 b3 : Bool) : Int := (bif b1 then 2 else 0) + (bif b2 then 4 else 0) + (bif b3 then 8 else 0)
theorem kindB_in (b1 b2 b3 : Bool) : 0 ≤ kindB b1 b2 b3 ∧ kindB b1 b2 b3 ≤ 14 ∧ kindB b1 b2 b3 ≠ 1 ∧ ((bits .and .i64 (kindB b1 b2 b3) 1) != 0) = false ∧ ((bits .and .i64 (kindB b1 b2 b3) 2) == 0) = !b1 ∧ ((bits .and .i64 (kindB b1 b2 b3) 4) == 0) = !b2 ∧ ((bits .and .i64 (kindB b1 b2 b3) 8) == 0) = !b3 ∧ ((b1 = true ∨ b2 = true ∨ b3 = true) → 1 ≤ kindB b1 b2 b3) := by
  cases b1 <;> cases b2 <;> cases b3 <;> exact ⟨by decide, by decide, by decide, rfl, rfl, rfl, rfl, by decide⟩
theorem str_ge {lo hi a t : Int} (ha : 1 ≤ a) (h : t * a ≤ hi * 10000) : t ≤ (strV lo hi a).hi := by
  unfold strV
  rw [if_neg (by omega)]
  exact Int.le_ediv_of_mul_le (by omega) (by omega)
theorem str_lt {lo hi a t : Int} (ha : 1 ≤ a) (h : lo * 10000 < t * a) : (strV lo hi a).lo < t := by
  unfold strV
  rw [if_neg (by omega)]
  exact Int.ediv_lt_of_lt_mul (by omega) h
theorem str_le {lo hi a t : Int} (ha : 1 ≤ a) (h : t * a ≤ lo * 10000) : t ≤ (strV lo hi a).lo := by
  unfold strV
  rw [if_neg (by omega)]
  exact Int.le_ediv_of_mul_le (by omega) h
theorem kinds_loop {xs : List MDrawn} {l ks : List Int} {q : MPot} {fore cut fin by' : Int} (hg : Goods xs l) (h64 : l.length ≤ 64) (hc : 0 ≤ fin ∧ fin ≤ cut ∧ cut ≤ 10000) (hk : ks.length = l.length) (hby : 0 ≤ by' ∧ by' ≤ 4294967295) : ∀ (n i : Nat) (sum : Int), i ≤ l.length → l.length + 1 ≤ n + i → (0 ≤ sum ∧ sum ≤ i * 1073741824) → ks.drop i = cutsV fore cut fin sum (xs.drop i) →
    wormtublaw04_StillKinds_l1 fore cut fin by' (ks, 0) (xs, q, 0) n (sum, (i : Int)) = some (Lp.done ()) := by
  intro n
  induction n with
  | zero => intro i sum h1 h2; omega
  | succ n ih =>
    intro i sum h1 h2 hs hd
    have hlx := hg.len
    rw [wormtublaw04_StillKinds_l1]
    dsimp only
    by_cases hi : i < l.length
    · obtain ⟨x1, x2, x3, x4, x5, x6⟩ := hg.all i hi
      rw [drop_getD (l := ks) (by omega), drop_getD (l := xs) (by omega)] at hd
      unfold cutsV at hd
      simp only [List.cons.injEq] at hd
      obtain ⟨hd1, hd2⟩ := hd
      have e1 : ((i : Int) + 1) = ((i + 1 : Nat) : Int) := by omega
      have ihn := ih (i + 1) (sum + (xs.getD i default).amount) (by omega) (by omega) (by omega) hd2
      rw [cond_t (by simp; omega), Int.toNat_natCast, grd_pos ⟨by omega, by omega⟩]
      rw [hd1]
      generalize xs.getD i default = x at *
      generalize l.getD i default = d at *
      subst x1
      unfold cutV
      rw [grd_pos (by omega), grd_pos ⟨by omega, by omega⟩]
      by_cases hf : fore < sum + x.amount
      · rw [if_pos hf]
        rw [show kindV (strV x.alcohol.lo x.alcohol.hi x.amount) cut fin = kindB (decide (cut ≤ (strV x.alcohol.lo x.alcohol.hi x.amount).hi)) (decide ((strV x.alcohol.lo x.alcohol.hi x.amount).lo < cut) && decide (fin ≤ (strV x.alcohol.lo x.alcohol.hi x.amount).hi)) (decide ((strV x.alcohol.lo x.alcohol.hi x.amount).lo < fin)) from rfl]
        have hin := str_in (lo := x.alcohol.lo) (hi := x.alcohol.hi) (n := x.amount) x4 x5 x6
        have q1 := fun t (h : t * x.amount ≤ x.alcohol.hi * 10000) => str_ge (lo := x.alcohol.lo) x2 h
        have q2 := fun t (h : x.alcohol.lo * 10000 < t * x.amount) => str_lt (hi := x.alcohol.hi) x2 h
        have q3 := fun t (h : t * x.amount ≤ x.alcohol.lo * 10000) => str_le (hi := x.alcohol.hi) x2 h
        obtain ⟨s1, s2, s3⟩ := hin
        generalize strV x.alcohol.lo x.alcohol.hi x.amount = s at *
        obtain ⟨v, hv, v1, v2⟩ := inner_ok (s := MSpan.mk x.alcohol.lo x.alcohol.hi) (b := by') (by dsimp only; omega) (by dsimp only; omega) (by dsimp only; omega) (.inl (by dsimp only; omega)) hby
        dsimp only at v1 v2
        have m1 := mul_le (a := cut) (b := x.amount) (m := 10000) (n := 1073741824) (by omega) (by omega)
        have m2 := mul_le (a := fin) (b := x.amount) (m := 10000) (n := 1073741824) (by omega) (by omega)
        have c1 := q1 cut
        have c2 := q1 fin
        have c3 := q2 cut
        have c4 := q2 fin
        have c5 := q3 cut
        have c6 := q3 fin
        clear q1 q2 q3
        generalize hC : cut * x.amount = C at *
        generalize fin * x.amount = F at *
        obtain ⟨b1, h1'⟩ : ∃ b, decide (cut ≤ s.hi) = b := ⟨_, rfl⟩
        obtain ⟨b2, h2'⟩ : ∃ b, (decide (s.lo < cut) && decide (fin ≤ s.hi)) = b := ⟨_, rfl⟩
        obtain ⟨b3, h3'⟩ : ∃ b, decide (s.lo < fin) = b := ⟨_, rfl⟩
        rw [h1', h2', h3']
        obtain ⟨k0, k14, kn1, kb1, kb2, kb4, kb8, kpos⟩ := kindB_in b1 b2 b3
        obtain ⟨j, hj, hbit, hk1⟩ : ∃ j, ((bif decide (C ≤ v * 10000) then some 2 else grd (InI64 F) (bif decide (F ≤ v * 10000) then some 4 else some 8)) : Option Int) = some j ∧ ((bits .and .i64 (kindB b1 b2 b3) j) == 0) = false ∧ 1 ≤ kindB b1 b2 b3 := by
          by_cases g1 : C ≤ v * 10000
          · have hb : b1 = true := by rw [← h1']; exact decide_eq_true (c1 (by omega))
            exact ⟨2, cond_t (by simpa using g1) _ _, by rw [kb2, hb]; rfl, kpos (.inl hb)⟩
          · rw [cond_f (by simpa using g1), grd_pos (by omega)]
            by_cases g2 : F ≤ v * 10000
            · have hb : b2 = true := by rw [← h2']; simp only [Bool.and_eq_true, decide_eq_true_eq]; exact ⟨c3 (by omega), c2 (by omega)⟩
              exact ⟨4, cond_t (by simpa using g2) _ _, by rw [kb4, hb]; rfl, kpos (.inr (.inl hb))⟩
            · have hb : b3 = true := by rw [← h3']; exact decide_eq_true (c4 (by omega))
              exact ⟨8, cond_f (by simpa using g2) _ _, by rw [kb8, hb]; rfl, kpos (.inr (.inr hb))⟩
        have hlast : (decide (C ≤ x.alcohol.lo * 10000) && (kindB b1 b2 b3 != 2)) = false := by
          by_cases g : C ≤ x.alcohol.lo * 10000
          · have g5 := c5 g
            have e1 : b1 = true := by rw [← h1']; exact decide_eq_true (by omega)
            have e2 : b2 = false := by rw [← h2', decide_eq_false (by omega)]; rfl
            have e3 : b3 = false := by rw [← h3']; exact decide_eq_false (by omega)
            rw [e1, e2, e3, show (kindB true false false != 2) = false from rfl, Bool.and_false]
          · rw [decide_eq_false g, Bool.false_and]
        generalize kindB b1 b2 b3 = k at *
        rw [cond_f (show (!((k == 1) == decide (sum + x.amount ≤ fore))) = false by rw [decide_eq_false (show ¬ sum + x.amount ≤ fore by omega), beq_eq_false_iff_ne.2 kn1]; rfl), cond_f (decide_eq_false (show ¬ sum + x.amount ≤ fore by omega)), bind_ok hv, grd_pos (by omega), grd_pos (by omega), bind_ok hj, grd_pos ⟨fun _ => ⟨by omega, by omega⟩, fun _ => ⟨by omega, by omega⟩, fun _ => ⟨by omega, by omega⟩⟩]
        rw [cond_f (show ((((bits .and .i64 k j) == 0) || decide (k < 1)) || decide (14 < k) || ((bits .and .i64 k 1) != 0)) = false by rw [hbit, kb1, decide_eq_false (by omega), decide_eq_false (by omega)]; rfl), grd_pos ⟨by omega, by omega, fun _ => ⟨by omega, by omega⟩⟩, cond_f hlast, grd_pos (by omega), e1]
        exact ihn
      · rw [if_neg hf, cond_f (by rw [decide_eq_true (show sum + x.amount ≤ fore by omega)]; rfl), cond_t (by simp; omega), grd_pos (by omega), e1]
        exact ihn
    · rw [cond_f (by simp; omega)]
theorem kinds_true (c : MCurve) (p : MPot) (l : List Int) (fore cut fin by' : Int) (hl : c.liquid.length ≤ 140737488355328) (hby : 0 ≤ by' ∧ by' ≤ 4294967295) : wormtublaw04_StillKinds FU c p l fore cut fin by' = some true := by
  unfold wormtublaw04_StillKinds wormtublaw04_long
  rw [Option.bind_some]
  cases (decide (40 < (c.liquid.length : Int)) || decide (40 < (c.vapour.length : Int)) || decide (70 < (l.length : Int))) with
  | true => rw [cond_t rfl, bind_ok alive_true]
  | false =>
    rw [cond_f rfl]
    obtain ⟨k, r, x, hE, hr, e3, _, h3⟩ := cuts_both c p l fore cut fin hl
    have e3' : still_Cuts FU c (MPot.mk p.volume (MSpan.mk p.alcohol.lo p.alcohol.hi)) l fore cut fin = some x := e3
    have hr' : runOf FU c (MPot.mk p.volume (MSpan.mk p.alcohol.lo p.alcohol.hi)) l = some r := hr
    rw [bind_ok e3']
    rcases h3 with ⟨k1, k2⟩ | ⟨k1, hg, h64, f0, fc, ct, rfl⟩
    · rw [cond_t (by simpa using k1), k2]
      simp [alive_true]
    · refine (cn0 _ _).trans ?_
      obtain ⟨xs, q, z⟩ := r
      dsimp only at k1 hg
      subst k1
      have hlx := hg.len
      have hlk := cutsV_len fore cut fin xs 0
      rw [bind_ok hr']
      dsimp only
      rw [cond_f ?_]
      · have hloop := kinds_loop (q := q) (by' := by') (ks := cutsV fore cut fin 0 xs) hg h64 ⟨f0, fc, ct⟩ (by omega) hby FU 0 0 (by omega) (by show l.length + 1 ≤ 1099511627776 + 0; omega) (by omega) rfl
        rw [show wormtublaw04_StillKinds_l1 fore cut fin by' (cutsV fore cut fin 0 xs, 0) (xs, q, 0) FU (0, 0) = _ from hloop]
        show wormtublaw04_StillKinds_k1 FU () = _
        rw [wormtublaw04_StillKinds_k1, bind_ok alive_true]
      · refine Bool.eq_false_iff.2 fun h => ?_
        rw [hlk, hlx, decide_eq_false (by omega), decide_eq_false (by omega)] at h
        simp at h
end Go.Proofs.Ytnfahoomoelmcaa
