/- StillNarrower: its model is true. -/
import Derived.Test.YtnfahoomoelmcaaSyL2
import Derived.Test.YtnfahoomoelmcaaMaFacts
namespace Go.Proofs.Ytnfahoomoelmcaa
open Go.RowKit Go.Proofs.Try

/-- a narrower pot -/
def Nar (q p : MPot) : Prop := q.volume = p.volume ∧ p.alcohol.lo ≤ q.alcohol.lo ∧ q.alcohol.lo ≤ q.alcohol.hi ∧ q.alcohol.hi ≤ p.alcohol.hi
theorem strV_mono {a a' b b' n : Int} (hn : 0 ≤ n) (h1 : a ≤ a') (h2 : b ≤ b') : (strV a b n).lo ≤ (strV a' b' n).lo ∧ (strV a b n).hi ≤ (strV a' b' n).hi := by
  unfold strV
  by_cases e : n = 0
  · rw [if_pos e, if_pos e]; exact ⟨Int.le_refl _, Int.le_refl _⟩
  · rw [if_neg e, if_neg e]
    exact ⟨Int.ediv_le_ediv (by omega) (by omega), Int.ediv_le_ediv (by omega) (by omega)⟩
/-- what is drawn of a narrower pot is narrower -/
theorem dr_nar {c : MCurve} {p q : MPot} {d : Int} (h : Valid c) (hp : PotOK p) (hq : PotOK q) (hn : Nar q p) (hd : 1 ≤ d ∧ d ≤ p.volume) : (drV c q d).most ≤ (drV c p d).most ∧ (drV c p d).least ≤ (drV c q d).least ∧ (drV c p d).stays ≤ (drV c q d).stays ∧ (drV c q d).high ≤ (drV c p d).high := by
  have hw := (dr_ok h hp hd).weak
  have hw' := (dr_ok h hq (by rw [hn.1]; exact hd)).weak
  obtain ⟨hv, n1, n2, n3⟩ := hn
  obtain ⟨⟨v0, v1⟩, l0, l1, l2⟩ := hp
  obtain ⟨_, k0, k1, k2⟩ := hq
  have hs := str_in l0 l1 l2
  have hs' := str_in k0 k1 k2
  rw [hv] at hs'
  have m0 := strV_mono (n := p.volume) v0 n1 n3
  have m1 := (strV_mono (n := p.volume) (a := p.alcohol.lo) (b := q.alcohol.hi) (b' := p.alcohol.hi) v0 n1 n3)
  obtain ⟨s1, s2, s3⟩ := hs
  obtain ⟨t1, t2, t3⟩ := hs'
  have hi : (strV q.alcohol.lo q.alcohol.hi p.volume).hi ≤ (strV p.alcohol.lo p.alcohol.hi p.volume).hi := Int.le_trans (strV_mono (n := p.volume) (a := q.alcohol.lo) (a' := q.alcohol.lo) v0 (Int.le_refl _) n3).2 (by
    unfold strV
    by_cases e : p.volume = 0
    · rw [if_pos e, if_pos e]; exact Int.le_refl _
    · rw [if_neg e, if_neg e]; exact Int.le_refl _)
  have lo : (strV p.alcohol.lo p.alcohol.hi p.volume).lo ≤ (strV q.alcohol.lo q.alcohol.hi p.volume).lo := by
    rw [strV_lo p.alcohol.lo p.alcohol.hi q.alcohol.hi]
    exact (strV_mono (n := p.volume) v0 n1 (Int.le_refl _)).1
  have hH := (low_mono h (x := (strV q.alcohol.lo q.alcohol.hi p.volume).hi) (y := (strV p.alcohol.lo p.alcohol.hi p.volume).hi) (by omega) hi s3).2
  unfold drV at hw hw' ⊢
  dsimp only at hw hw' ⊢
  rw [hv] at hw' ⊢
  generalize (strV q.alcohol.lo q.alcohol.hi p.volume).hi = qh at *
  generalize (strV p.alcohol.lo p.alcohol.hi p.volume).hi = ph at *
  generalize (strV q.alcohol.lo q.alcohol.hi p.volume).lo = ql at *
  generalize (strV p.alcohol.lo p.alcohol.hi p.volume).lo = pl at *
  have r3 : (d * highV c qh + 9999) / 10000 ≤ (d * highV c ph + 9999) / 10000 := by
    have := Int.mul_le_mul_of_nonneg_left hH (show 0 ≤ d by omega)
    omega
  generalize (d * highV c qh + 9999) / 10000 = rq at *
  generalize (d * highV c ph + 9999) / 10000 = rp at *
  have hst : max (p.alcohol.lo - min rp p.alcohol.hi) 0 ≤ max (q.alcohol.lo - min rq q.alcohol.hi) 0 := by omega
  have hwm := (strV_mono (n := p.volume - d) (by omega) hst (Int.le_refl 0)).1
  generalize max (p.alcohol.lo - min rp p.alcohol.hi) 0 = sp at *
  generalize max (q.alcohol.lo - min rq q.alcohol.hi) 0 = sq at *
  generalize (strV sp 0 (p.volume - d)).lo = wp at *
  generalize (strV sq 0 (p.volume - d)).lo = wq at *
  have hL := (low_mono h (x := min wp pl) (y := min wq ql) hw.1 (by omega) hw'.2).1
  have hq3 : d * lowV c (min wp pl) / 10000 ≤ d * lowV c (min wq ql) / 10000 := by
    have := Int.mul_le_mul_of_nonneg_left hL (show 0 ≤ d by omega)
    omega
  generalize d * lowV c (min wp pl) / 10000 = ep at *
  generalize d * lowV c (min wq ql) / 10000 = eq at *
  have hup : (q.alcohol.hi * (p.volume - d) + p.volume - 1) / p.volume ≤ (p.alcohol.hi * (p.volume - d) + p.volume - 1) / p.volume := by
    have := Int.mul_le_mul_of_nonneg_right n3 (show 0 ≤ p.volume - d by omega)
    exact Int.ediv_le_ediv (by omega) (by omega)
  generalize (q.alcohol.hi * (p.volume - d) + p.volume - 1) / p.volume = uq at *
  generalize (p.alcohol.hi * (p.volume - d) + p.volume - 1) / p.volume = up at *
  exact ⟨by omega, by omega, hst, by omega⟩
theorem stepV_nar {c : MCurve} {p q : MPot} {d : Int} (hn : q.volume = p.volume) : (∃ k, stepV c p d = .error k ∧ stepV c q d = .error k) ∨ ((1 ≤ d ∧ d ≤ p.volume) ∧ stepV c p d = .ok (outV p d (drV c p d)) ∧ stepV c q d = .ok (outV q d (drV c q d))) := by
  unfold stepV
  rw [hn]
  by_cases h1 : d < 1 ∨ 1073741824 < d
  · rw [if_pos h1, if_pos h1]; exact .inl ⟨_, rfl, rfl⟩
  rw [if_neg h1, if_neg h1]
  by_cases h2 : p.volume < d
  · rw [if_pos h2, if_pos h2]; exact .inl ⟨_, rfl, rfl⟩
  rw [if_neg h2, if_neg h2]
  exact .inr ⟨by omega, rfl, rfl⟩
/-- what is drawn, together -/
def lowSum : List MDrawn → Int
  | [] => 0
  | x :: r => x.alcohol.lo + lowSum r
def highSum : List MDrawn → Int
  | [] => 0
  | x :: r => x.alcohol.hi + highSum r
def amtSum : List Int → Int
  | [] => 0
  | d :: r => d + amtSum r
theorem hand_nar {c : MCurve} (h : Valid c) : ∀ {l : List Int} {p q : MPot}, PotOK p → PotOK q → Nar q p → (handV c p l).2.2 = none →
    (handV c q l).2.2 = none ∧ Nar (handV c q l).2.1 (handV c p l).2.1 ∧ (∀ i, i < l.length → ((handV c p l).1.getD i default).alcohol.lo ≤ ((handV c q l).1.getD i default).alcohol.lo ∧ ((handV c q l).1.getD i default).alcohol.hi ≤ ((handV c p l).1.getD i default).alcohol.hi) ∧
      (handV c p l).2.1.volume + amtSum l = p.volume ∧ lowSum (handV c p l).1 + (handV c p l).2.1.alcohol.lo ≤ p.alcohol.hi ∧ p.alcohol.lo ≤ highSum (handV c p l).1 + (handV c p l).2.1.alcohol.hi
  | [], p, q, hp, hq, hn, _ => ⟨rfl, hn, fun i hi => absurd hi (by simp), by show p.volume + 0 = p.volume; omega, by have := hp.2.2.1; show 0 + p.alcohol.lo ≤ p.alcohol.hi; omega, by have := hp.2.2.1; show p.alcohol.lo ≤ 0 + p.alcohol.hi; omega⟩
  | d :: r, p, q, hp, hq, hn, hnone => by
    unfold handV at hnone ⊢
    rcases stepV_nar (c := c) (d := d) hn.1 with ⟨k, e1, e2⟩ | ⟨hd, e1, e2⟩
    · rw [e1] at hnone; cases hnone
    · rw [e1] at hnone ⊢
      rw [e2]
      dsimp only at hnone ⊢
      have hdq : 1 ≤ d ∧ d ≤ q.volume := by rw [hn.1]; exact hd
      have op := dr_ok h hp hd
      have oq := dr_ok h hq hdq
      have mm := dr_nar h hp hq hn hd
      have hn' : Nar (outV q d (drV c q d)).2 (outV p d (drV c p d)).2 := ⟨by show q.volume - d = p.volume - d; rw [hn.1], mm.2.2.1, oq.stays1, mm.2.2.2⟩
      obtain ⟨i1, i2, i3, i4, i5, i6⟩ := hand_nar h (l := r) (next_ok hp hd op) (next_ok hq hdq oq) hn' hnone
      refine ⟨i1, i2, fun i hi => ?_, ?_, ?_, ?_⟩
      · cases i with
        | zero => exact ⟨mm.2.1, mm.1⟩
        | succ i => exact i3 i (by simpa using hi)
      · have : (outV p d (drV c p d)).2.volume = p.volume - d := rfl
        rw [this] at i4
        show _ + (d + amtSum r) = _
        omega
      · have e3 : (outV p d (drV c p d)).2.alcohol.hi = (drV c p d).high := rfl
        rw [e3] at i5
        have := op.high2
        show (drV c p d).least + lowSum _ + _ ≤ _
        omega
      · have e3 : (outV p d (drV c p d)).2.alcohol.lo = (drV c p d).stays := rfl
        rw [e3] at i6
        have := op.stays2
        show _ ≤ (drV c p d).most + highSum _ + _
        omega
theorem drop_getD' {α : Type} [Inhabited α] {l : List α} {i : Nat} (h : i < l.length) : l.drop i = l.getD i default :: l.drop (i + 1) := by
  rw [List.drop_eq_getElem_cons h, List.getD_eq_getElem?_getD, List.getElem?_eq_getElem h]
  rfl
theorem goods_sums : ∀ {xs : List MDrawn} {l : List Int}, Goods xs l → 0 ≤ lowSum xs ∧ lowSum xs ≤ highSum xs ∧ highSum xs ≤ amtSum l
  | [], [], _ => by simp [lowSum, highSum, amtSum]
  | [], d :: s, h => by have := h.len; simp at this
  | x :: r, [], h => by have := h.len; simp at this
  | x :: r, d :: s, h => by
    have ih := goods_sums (xs := r) (l := s) ⟨by simpa using h.len, fun i hi => h.all (i + 1) (by simpa using hi)⟩
    obtain ⟨_, _, _, x4, x5, x6⟩ := h.all 0 (by simp)
    have x4' : 0 ≤ x.alcohol.lo := x4
    have x5' : x.alcohol.lo ≤ x.alcohol.hi := x5
    have x6' : x.alcohol.hi ≤ d := x6
    simp only [lowSum, highSum, amtSum]
    omega
theorem nar_loop {xs ys : List MDrawn} {l : List Int} {q q2 : MPot} (hx : Goods xs l) (hy : Goods ys l) (h64 : l.length ≤ 64) (hn : ∀ i, i < l.length → (xs.getD i default).alcohol.lo ≤ (ys.getD i default).alcohol.lo ∧ (ys.getD i default).alcohol.hi ≤ (xs.getD i default).alcohol.hi) :
    ∀ (n i : Nat) (least most vol : Int), i ≤ l.length → l.length + 1 ≤ n + i → (0 ≤ least ∧ least ≤ i * 1073741824) → (0 ≤ most ∧ most ≤ i * 1073741824) → (0 ≤ vol ∧ vol ≤ (i + 1) * 1073741824) →
    wormtublaw04_StillNarrower_l1 l (xs, q, 0) (ys, q2, 0) n (least, most, vol, (i : Int)) = some (Lp.done (least + lowSum (xs.drop i), most + highSum (xs.drop i), vol + amtSum (l.drop i))) := by
  intro n
  induction n with
  | zero => intro i a b d h1 h2; omega
  | succ n ih =>
    intro i least most vol h1 h2 h3 h4 h5
    have hlx := hx.len
    have hly := hy.len
    rw [wormtublaw04_StillNarrower_l1]
    dsimp only
    by_cases hi : i < l.length
    · obtain ⟨x1, x2, x3, x4, x5, x6⟩ := hx.all i hi
      obtain ⟨y1, y2, y3, y4, y5, y6⟩ := hy.all i hi
      have hni := hn i hi
      have e1 : ((i : Int) + 1) = ((i + 1 : Nat) : Int) := by omega
      have ihn := ih (i + 1) (least + (xs.getD i default).alcohol.lo) (most + (xs.getD i default).alcohol.hi) (vol + l.getD i default) (by omega) (by omega) (by omega) (by omega) (by omega)
      have ee : wormtublaw04_StillNarrower_1 (MSpan.mk (ys.getD i default).alcohol.lo (ys.getD i default).alcohol.hi) (MSpan.mk (xs.getD i default).alcohol.lo (xs.getD i default).alcohol.hi) = some true := by
        unfold wormtublaw04_StillNarrower_1
        simp only [Option.some.injEq, Bool.and_eq_true, decide_eq_true_eq]
        omega
      rw [cond_t (by simp; omega), Int.toNat_natCast, grd_pos ⟨by omega, by omega⟩, grd_pos ⟨by omega, by omega⟩, bind_ok ee, grd_pos ⟨fun _ => ⟨by omega, by omega⟩, fun _ => ⟨by omega, by omega⟩, fun _ => ⟨by omega, by omega⟩, fun _ => ⟨by omega, by omega⟩, fun _ => ⟨by omega, by omega⟩⟩]
      rw [cond_f ?_, grd_pos ⟨by omega, by omega, ⟨by omega, by omega⟩, by omega⟩, grd_pos (by omega), e1, ihn]
      · rw [drop_getD' (l := xs) (i := i) (by omega), drop_getD' (l := l) (i := i) hi]
        simp only [lowSum, highSum, amtSum]
        rw [Int.add_assoc, Int.add_assoc, Int.add_assoc]
      · refine Bool.eq_false_iff.2 fun h => ?_
        simp only [Bool.not_true, Bool.false_or, Bool.or_eq_true, bne_iff_ne, ne_eq, decide_eq_true_eq] at h
        omega
    · rw [cond_f (by simp; omega), List.drop_eq_nil_of_le (by omega), List.drop_eq_nil_of_le (by omega)]
      simp only [lowSum, highSum, amtSum, Int.add_zero]
theorem narrower_true (c : MCurve) (p : MPot) (l : List Int) (a b : Int) (hl : c.liquid.length ≤ 140737488355328) (ha : 0 ≤ a ∧ a ≤ 4294967295) (hb : 0 ≤ b ∧ b ≤ 4294967295) : wormtublaw04_StillNarrower FU c p l a b = some true := by
  unfold wormtublaw04_StillNarrower wormtublaw04_long
  rw [Option.bind_some]
  cases (decide (40 < (c.liquid.length : Int)) || decide (40 < (c.vapour.length : Int)) || decide (70 < (l.length : Int))) with
  | true => rw [cond_t rfl, bind_ok alive_true]
  | false =>
    rw [cond_f rfl]
    obtain ⟨k, r, _, ⟨hr, _⟩, hE⟩ := run_end c p l hl
    have hr' : runOf FU c (MPot.mk p.volume (MSpan.mk p.alcohol.lo p.alcohol.hi)) l = some r := hr
    rw [bind_ok hr']
    cases hE with
    | early k hk =>
      rw [cond_t (by simp only [bne_iff_ne, ne_eq]; omega)]
      simp [alive_true]
    | died h hp h64 k hk hn =>
      rw [cond_t (by simp only [bne_iff_ne, ne_eq]; omega)]
      simp [alive_true]
    | good h hp h64 hn hg hq =>
      refine (cn0 _ _).trans ?_
      obtain ⟨⟨v0, v1⟩, l0, l1, l2⟩ := id hp
      rw [bind_ok (Pot_eq p), decide_eq_true (show (0 ≤ p.volume ∧ p.volume ≤ 1073741824) ∧ Okay 0 p.volume p.alcohol from hp), show ∀ x y : Option Bool, (bif !true then x else y) = y from fun _ _ => rfl]
      obtain ⟨x, ex, x1, x2⟩ := inner_ok (s := MSpan.mk p.alcohol.lo p.alcohol.hi) (by dsimp only; omega) (by dsimp only; omega) (by dsimp only; omega) (.inl (by dsimp only; omega)) ha
      obtain ⟨y, ey, y1, y2⟩ := inner_ok (s := MSpan.mk p.alcohol.lo p.alcohol.hi) (by dsimp only; omega) (by dsimp only; omega) (by dsimp only; omega) (.inl (by dsimp only; omega)) hb
      dsimp only at x1 x2 y1 y2
      rw [bind_ok ex, bind_ok ey]
      have hq2 : PotOK (MPot.mk p.volume (MSpan.mk (min x y) (max x y))) := ⟨⟨v0, v1⟩, by show 0 ≤ min x y; omega, by show min x y ≤ max x y; omega, by show max x y ≤ p.volume; omega⟩
      have hnar : Nar (MPot.mk p.volume (MSpan.mk (min x y) (max x y))) p := ⟨rfl, by show p.alcohol.lo ≤ min x y; omega, by show min x y ≤ max x y; omega, by show max x y ≤ p.alcohol.hi; omega⟩
      obtain ⟨i1, i2, i3, i4, i5, i6⟩ := hand_nar h hp hq2 hnar hn
      obtain ⟨hg2, hq3⟩ := hand_goods h hq2 i1
      have hr2 := (runOf_eq c (MPot.mk p.volume (MSpan.mk (min x y) (max x y))) l hl).2.2 h64 h hq2
      have e2 : runV c (MPot.mk p.volume (MSpan.mk (min x y) (max x y))) l = ((handV c (MPot.mk p.volume (MSpan.mk (min x y) (max x y))) l).1, (handV c (MPot.mk p.volume (MSpan.mk (min x y) (max x y))) l).2.1, 0) := by
        unfold runV
        rw [i1]
      rw [e2] at hr2
      rw [bind_ok hr2]
      have gs := goods_sums hg
      generalize handV c (MPot.mk p.volume (MSpan.mk (min x y) (max x y))) l = Q at *
      generalize hP : handV c p l = P at *
      obtain ⟨n1, n2, n3, n4⟩ := i2
      obtain ⟨⟨w0, w1⟩, w2, w3, w4⟩ := id hq
      have ee : wormtublaw04_StillNarrower_1 (MSpan.mk Q.2.1.alcohol.lo Q.2.1.alcohol.hi) (MSpan.mk P.2.1.alcohol.lo P.2.1.alcohol.hi) = some true := by
        unfold wormtublaw04_StillNarrower_1
        simp only [Option.some.injEq, Bool.and_eq_true, decide_eq_true_eq]
        omega
      have c1 : (!(((0 : Int) != 0) || (((Q.1.length : Nat) : Int) != ((P.1.length : Nat) : Int)))) = true := by
        rw [hg.len, hg2.len]; simp
      dsimp only
      rw [cond_t c1, bind_ok ee, cond_f (by rw [hg.len, hg2.len, n1]; simp)]
      have hloop := nar_loop (q := P.2.1) (q2 := Q.2.1) hg hg2 h64 i3 FU 0 0 0 P.2.1.volume (by omega) (by show l.length + 1 ≤ 1099511627776 + 0; omega) (by omega) (by omega) (by omega)
      rw [show wormtublaw04_StillNarrower_l1 l (P.1, P.2.1, 0) (Q.1, Q.2.1, 0) FU (0, 0, P.2.1.volume, 0) = _ from hloop]
      show wormtublaw04_StillNarrower_k1 FU p (P.1, P.2.1, 0) (0 + lowSum (P.1.drop 0), 0 + highSum (P.1.drop 0), P.2.1.volume + amtSum (l.drop 0)) = _
      rw [List.drop_zero, List.drop_zero, Int.zero_add, Int.zero_add]
      unfold wormtublaw04_StillNarrower_k1
      rw [grd_pos ⟨fun _ => by dsimp only; omega, fun _ => by dsimp only; omega⟩]
      have c2 : (((P.2.1.volume + amtSum l == p.volume) && decide (lowSum P.1 + P.2.1.alcohol.lo ≤ p.alcohol.hi)) && decide (p.alcohol.lo ≤ highSum P.1 + P.2.1.alcohol.hi)) = true := by
        simp only [Bool.and_eq_true, beq_iff_eq, decide_eq_true_eq]
        exact ⟨⟨i4, i5⟩, i6⟩
      dsimp only
      rw [c2, cond_t rfl, bind_ok alive_true]
      rfl
end Go.Proofs.Ytnfahoomoelmcaa
