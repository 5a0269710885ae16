/- StillTrue: its model is true. -/
import Derived.Test.YtnfahoomoelmcaaSyL4
import Derived.Test.YtnfahoomoelmcaaMaGround
namespace Go.Proofs.Ytnfahoomoelmcaa
open Go.RowKit Go.Proofs.Try

/-- what a true pot gives and keeps is within what is told -/
theorem true_step {c : MCurve} {p : MPot} {d A B : Int} {m : Nat} (h : Valid c) (hp : PotOK p) (hd : 1 ≤ d ∧ d ≤ p.volume) (hm : (m : Int) = d) (hA : 1000000 * p.alcohol.lo ≤ A ∧ A ≤ 1000000 * p.alcohol.hi) (hG : Gone c p.volume A m B) :
    (1000000 * (drV c p d).least ≤ A - B ∧ A - B ≤ 1000000 * (drV c p d).most) ∧ 1000000 * (drV c p d).stays ≤ B ∧ B ≤ 1000000 * (drV c p d).high := by
  have hr := dr_ok h hp hd
  obtain ⟨⟨v0, v1⟩, l0, l1, l2⟩ := hp
  obtain ⟨⟨g1, g2, g3⟩, g4, g5, g6⟩ := hG
  rw [hm] at g2 g4 g5 g6
  obtain ⟨s1, s2, s3⟩ := str_in l0 l1 l2
  obtain ⟨o1, o2, o3, o4, o5, o6, o7, o8, o9, o10, o11⟩ := hr
  -- what is drawn at most
  have k1 : p.alcohol.hi * 10000 ≤ (strV p.alcohol.lo p.alcohol.hi p.volume).hi * p.volume := by
    unfold strV
    rw [if_neg (by omega)]
    have := (div_mul (a := p.alcohol.hi * 10000 + p.volume - 1) (b := p.volume) (by omega)).2
    rw [Int.add_mul, Int.one_mul] at this
    dsimp only
    omega
  have k2 : A ≤ (strV p.alcohol.lo p.alcohol.hi p.volume).hi * (100 * p.volume) := by
    rw [← Int.mul_assoc, Int.mul_right_comm]
    omega
  have k3 := g6 _ ⟨by omega, s3⟩ k2
  have most : A - B ≤ 1000000 * (drV c p d).most := by
    have e : (drV c p d).most = min ((d * highV c (strV p.alcohol.lo p.alcohol.hi p.volume).hi + 9999) / 10000) p.alcohol.hi := rfl
    have e2 : d * (100 * highV c (strV p.alcohol.lo p.alcohol.hi p.volume).hi) = 100 * (d * highV c (strV p.alcohol.lo p.alcohol.hi p.volume).hi) := by rw [← Int.mul_assoc, Int.mul_comm d 100, Int.mul_assoc]
    rw [e]
    rw [e2] at k3
    omega
  -- what stays at least
  have est : (drV c p d).stays = max (p.alcohol.lo - (drV c p d).most) 0 := rfl
  have stays : 1000000 * (drV c p d).stays ≤ B := by omega
  -- what is drawn at least
  have ew : (drV c p d).weak = min (strV (drV c p d).stays 0 (p.volume - d)).lo (strV p.alcohol.lo p.alcohol.hi p.volume).lo := rfl
  have ws : p.volume - d = 0 → (drV c p d).weak = 0 := fun e => by
    have z : (strV (drV c p d).stays 0 (p.volume - d)).lo = 0 := by
      unfold strV
      rw [if_pos e]
    rw [ew, z]
    omega
  have wb : (drV c p d).weak * (100 * (p.volume - d)) ≤ B := by
    by_cases e : p.volume - d = 0
    · rw [ws e]; omega
    · have z : (strV (drV c p d).stays 0 (p.volume - d)).lo * (p.volume - d) ≤ (drV c p d).stays * 10000 := by
        unfold strV
        rw [if_neg e]
        exact (div_mul (by omega)).1
      have z2 := Int.mul_le_mul_of_nonneg_right (show (drV c p d).weak ≤ (strV (drV c p d).stays 0 (p.volume - d)).lo by omega) (show 0 ≤ p.volume - d by omega)
      rw [← Int.mul_assoc, Int.mul_right_comm]
      omega
  have k4 := g5 _ o11 ws wb
  have least : 1000000 * (drV c p d).least ≤ A - B := by
    have e : (drV c p d).least = max (d * lowV c (drV c p d).weak / 10000) (p.alcohol.lo - (p.volume - d)) := rfl
    have e2 : d * (100 * lowV c (drV c p d).weak) = 100 * (d * lowV c (drV c p d).weak) := by rw [← Int.mul_assoc, Int.mul_comm d 100, Int.mul_assoc]
    rw [e]
    rw [e2] at k4
    omega
  -- what stays at most
  have high : B ≤ 1000000 * (drV c p d).high := by
    have e : (drV c p d).high = min (min (p.alcohol.hi - (drV c p d).least) (p.volume - d)) ((p.alcohol.hi * (p.volume - d) + p.volume - 1) / p.volume) := rfl
    have z : B ≤ 1000000 * ((p.alcohol.hi * (p.volume - d) + p.volume - 1) / p.volume) := by
      refine cancel (show 0 < p.volume by omega) ?_
      have q0 := (div_mul (a := p.alcohol.hi * (p.volume - d) + p.volume - 1) (b := p.volume) (by omega)).2
      rw [Int.add_mul, Int.one_mul] at q0
      have q1 := Int.mul_le_mul_of_nonneg_right hA.2 (show 0 ≤ p.volume - d by omega)
      rw [Int.mul_assoc] at q1 ⊢
      omega
    rw [e]
    omega
  exact ⟨⟨least, most⟩, stays, high⟩
theorem true_loop {c : MCurve} {xs : List MDrawn} {l by' : List Int} {q : MPot} (h : Valid c) (hl : c.liquid.length ≤ 140737488355328) (h64 : l.length ≤ 64) (hxl : xs.length = l.length) (hby : ∀ j, 0 ≤ by'.getD j default ∧ by'.getD j default ≤ 4294967295) (hlen : 0 < by'.length) :
    ∀ (n i : Nat) (now : MPot) (A sum : Int), i ≤ l.length → l.length + 1 ≤ n + i → PotOK now → now.volume ≤ 3000 → (1000000 * now.alcohol.lo ≤ A ∧ A ≤ 1000000 * now.alcohol.hi) → (0 ≤ sum ∧ sum ≤ i * 1073741824) → (handV c now (l.drop i)).2.2 = none → xs.drop i = (handV c now (l.drop i)).1 →
    wormtublaw04_StillTrue_l1 FU c l by' (xs, q, 0) n (now.volume, A, sum, (i : Int), now.volume, now.alcohol.lo, now.alcohol.hi) = some (Lp.done ()) ∨ wormtublaw04_StillTrue_l1 FU c l by' (xs, q, 0) n (now.volume, A, sum, (i : Int), now.volume, now.alcohol.lo, now.alcohol.hi) = some (Lp.ret true) := by
  intro n
  induction n with
  | zero => intro i now A sum h1 h2; omega
  | succ n ih =>
    intro i now A sum h1 h2 hp hv hA hs hn hx
    rw [wormtublaw04_StillTrue_l1]
    dsimp only
    by_cases hi : i < l.length
    · have e0 : l.drop i = l.getD i default :: l.drop (i + 1) := by
        rw [List.drop_eq_getElem_cons hi, List.getD_eq_getElem?_getD, List.getElem?_eq_getElem hi]
        rfl
      have e1 : xs.drop i = xs.getD i default :: xs.drop (i + 1) := by
        rw [List.drop_eq_getElem_cons (by omega), List.getD_eq_getElem?_getD, List.getElem?_eq_getElem (by omega)]
        rfl
      rw [e0] at hn hx
      rw [e1] at hx
      rw [cond_t (by simp; omega), Int.toNat_natCast, grd_pos ⟨by omega, by omega⟩]
      generalize l.getD i default = d at *
      unfold handV at hn hx
      cases e : stepV c now d with
      | error k => rw [e] at hn; cases hn
      | ok y =>
        rw [e] at hn hx
        obtain ⟨hd, rfl⟩ := stepV_ok e
        dsimp only at hn hx
        simp only [List.cons.injEq] at hx
        obtain ⟨hx1, hx2⟩ := hx
        have hr := dr_ok h hp hd
        have hq2 := next_ok hp hd hr
        rw [grd_pos (by have := hp.1.2; omega)]
        by_cases h300 : 300 < sum + d
        · rw [cond_t (by simpa using h300), bind_ok alive_true]
          exact .inr rfl
        rw [cond_f (by simpa using h300)]
        have hp2 := id hp
        obtain ⟨⟨v0, v1⟩, l0, l1, l2⟩ := hp2
        obtain ⟨m, rfl⟩ : ∃ m : Nat, d = m := ⟨d.toNat, by omega⟩
        have hgl := ground_loop (c := c) (d := (m : Int)) (by' := by') h (by omega) hby hlen FU m now.volume A 0 (by omega) (by omega) hv (by omega) (by omega) (by show m + 1 ≤ 1099511627776; omega)
        rcases hgl with hg | ⟨B, hg, hG⟩
        · have eg : wormtublaw04_ground FU c now.volume A (m : Int) by' = some (0, false) := by
            unfold wormtublaw04_ground
            rw [hg]
            rfl
          rw [bind_ok eg, cond_t (b := !((0 : Int), false).2) rfl, bind_ok alive_true]
          exact .inr rfl
        · have hst := true_step h hp hd rfl hA hG
          obtain ⟨⟨t1, t2⟩, t3, t4⟩ := hst
          have gin := hG.in0
          have eg : wormtublaw04_ground FU c now.volume A (m : Int) by' = some (A - B, true) := by
            unfold wormtublaw04_ground
            rw [hg]
            show wormtublaw04_ground_k1 A B = _
            rw [wormtublaw04_ground_k1, grd_pos (by omega)]
          have ed : still_Draw FU c (MPot.mk now.volume (MSpan.mk now.alcohol.lo now.alcohol.hi)) (m : Int) = some ((outV now m (drV c now m)).1, (outV now m (drV c now m)).2, 0) := by
            have := Draw_eq (c := c) (p := now) (d := (m : Int)) h hl hp
            rw [e] at this
            exact this
          rw [bind_ok eg, show ∀ x y : Option (Lp Unit Bool), (bif !true then x else y) = y from fun _ _ => rfl, bind_ok ed, hx1]
          have ihn := ih (i + 1) (outV now m (drV c now m)).2 B (sum + m) (by omega) (by omega) hq2 (by show now.volume - m ≤ 3000; omega) ⟨t3, t4⟩ (by omega) hn hx2
          have a1 : (outV now m (drV c now m)).2.volume = now.volume - m := rfl
          have a2 : (outV now m (drV c now m)).1.alcohol.lo = (drV c now m).least := rfl
          have a3 : (outV now m (drV c now m)).1.alcohol.hi = (drV c now m).most := rfl
          have a4 : (outV now m (drV c now m)).2.alcohol.lo = (drV c now m).stays := rfl
          have a5 : (outV now m (drV c now m)).2.alcohol.hi = (drV c now m).high := rfl
          obtain ⟨o1, o2, o3, o4, o5, o6, o7, o8, o9, o10, o11⟩ := hr
          dsimp only
          rw [a1] at ihn
          rw [a1, a2, a3, a4, a5]
          rw [a4, a5] at ihn
          have eAB : A - (A - B) = B := by omega
          rw [eAB]
          rw [grd_pos ⟨by omega, by omega⟩, grd_pos ⟨fun _ => ⟨by omega, by omega⟩, fun _ => by omega, fun _ => ⟨by omega, by omega⟩, fun _ => by omega, fun _ => by omega, fun _ => by omega⟩]
          rw [cond_f ?_, grd_pos (by omega), show ((i : Int) + 1) = ((i + 1 : Nat) : Int) by omega]
          · exact ihn
          · refine Bool.eq_false_iff.2 fun hh => ?_
            simp only [Bool.or_eq_true, bne_iff_ne, ne_eq, decide_eq_true_eq, not_true_eq_false, false_or, or_self] at hh
            omega
    · rw [cond_f (by simp; omega)]
      exact .inl rfl
theorem true_true (c : MCurve) (p : MPot) (l by' : List Int) (hl : c.liquid.length ≤ 140737488355328) (hby : ∀ j, 0 ≤ by'.getD j default ∧ by'.getD j default ≤ 4294967295) : wormtublaw04_StillTrue FU c p l by' = some true := by
  unfold wormtublaw04_StillTrue
  by_cases h0 : (((12 < c.liquid.length ∨ 12 < c.vapour.length) ∨ 6 < l.length) ∨ by'.length = 0) ∨ 3000 < p.volume
  · rw [cond_t (by simp only [Bool.or_eq_true, decide_eq_true_eq, beq_iff_eq]; omega), bind_ok alive_true]
  rw [cond_f (by refine Bool.eq_false_iff.2 fun hh => h0 ?_; simp only [Bool.or_eq_true, decide_eq_true_eq, beq_iff_eq] at hh; omega)]
  obtain ⟨k, r, _, ⟨hr, _⟩, hE⟩ := run_end c p l hl
  have hr' : runOf FU c (MPot.mk p.volume (MSpan.mk p.alcohol.lo p.alcohol.hi)) l = some r := hr
  rw [bind_ok hr']
  cases hE with
  | early k hk =>
    rw [cond_t (by simp only [bne_iff_ne, ne_eq]; omega)]
    simp [alive_true]
  | died h hp h64 k hk hn =>
    rw [cond_t (by simp only [bne_iff_ne, ne_eq]; omega)]
    simp [alive_true]
  | good h hp h64 hn hg hq =>
    refine (cn0 _ _).trans ?_
    rw [bind_ok ((Curve_eq c hl FU (by decide)).1 h), cnn, bind_ok (Pot_eq p), decide_eq_true (show (0 ≤ p.volume ∧ p.volume ≤ 1073741824) ∧ Okay 0 p.volume p.alcohol from hp)]
    rw [cond_f (show (((!true) || (!true)) || ((((handV c p l).1.length : Nat) : Int) != ((l.length : Nat) : Int))) = false by rw [hg.len]; simp)]
    obtain ⟨⟨v0, v1⟩, l0, l1, l2⟩ := id hp
    obtain ⟨x, ex, x1, x2⟩ := inner_ok (s := MSpan.mk p.alcohol.lo p.alcohol.hi) (by dsimp only; omega) (by dsimp only; omega) (by dsimp only; omega) (.inl (by dsimp only; omega)) (hby (Int.toNat 0))
    dsimp only at x1 x2
    rw [grd_pos ⟨by omega, by omega⟩, bind_ok ex, grd_pos (by omega)]
    have hloop := true_loop (q := (handV c p l).2.1) h hl h64 hg.len hby (by omega) FU 0 p (1000000 * x) 0 (by omega) (by show l.length + 1 ≤ 1099511627776 + 0; omega) hp (by omega) (by omega) (by omega) (by rw [List.drop_zero]; exact hn) (by rw [List.drop_zero, List.drop_zero])
    rcases hloop with e | e
    · rw [show wormtublaw04_StillTrue_l1 FU c l by' ((handV c p l).1, (handV c p l).2.1, 0) FU (p.volume, 1000000 * x, 0, 0, p.volume, p.alcohol.lo, p.alcohol.hi) = _ from e]
      show wormtublaw04_StillTrue_k1 FU () = _
      rw [wormtublaw04_StillTrue_k1, bind_ok alive_true]
    · rw [show wormtublaw04_StillTrue_l1 FU c l by' ((handV c p l).1, (handV c p l).2.1, 0) FU (p.volume, 1000000 * x, 0, 0, p.volume, p.alcohol.lo, p.alcohol.hi) = _ from e]
      rfl
end Go.Proofs.Ytnfahoomoelmcaa
