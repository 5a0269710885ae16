/- The quotient of two words by one, whatever they are. -/
import Derived.Test.YtcghafdemklnnaaLen
import Derived.Test.YtcghafdemklnnaaParts
import Derived.Test.YtcghafdemklnnaaDivMath
import Derived.Lib.EndianBits
import Derived.Deep.DeepCutAuto
import Derived.Deep.CutBlock
namespace Go.Proofs.Ytcghafdemklnnaa
open Go.RowKit Go.Shelf Go.Sort

theorem mask_int (z : Int) (h0 : 0 ≤ z) (h1 : z ≤ 18446744073709551615) : bits .and .u64 z 4294967295 = z % 4294967296 := by
  obtain ⟨n, rfl⟩ := Int.eq_ofNat_of_zero_le h0
  exact Mul64.maskN n (by omega)

set_option maxHeartbeats 4000000 in
set_option maxRecDepth 100000 in
theorem Div64_large (h l y : Int) (w : World) (h0 : 0 < h) (hy : h < y) (y1 : y ≤ 18446744073709551615) (l0 : 0 ≤ l) (l1 : l ≤ 18446744073709551615) :
    Calls Try.prog 93 #[.int .u64 h, .int .u64 l, .int .u64 y] w fun e w' => e = .returned (.tuple #[.int .u64 ((h * 18446744073709551616 + l) / y), .int .u64 ((h * 18446744073709551616 + l) % y)]) ∧ Below w.heap.size w w' := by
  have hle := Lib.hid fun W => lead_any y W (by omega) y1
  have hfin : ∀ q r : Int, q = (h * 18446744073709551616 + l) / y → r = (h * 18446744073709551616 + l) % y → ∀ W, Below w.heap.size w W → (fun (e : Ending) w' => e = .returned (.tuple #[.int .u64 ((h * 18446744073709551616 + l) / y), .int .u64 ((h * 18446744073709551616 + l) % y)]) ∧ Below w.heap.size w w') (.returned (.tuple #[.int .u64 q, .int .u64 r])) W := by
    rintro q r rfl rfl W hb
    exact ⟨rfl, hb⟩
  replace hfin := Lib.hid hfin
  go_enter Try.func93, Try.ntmps93
  go_wp2_with fail
  refine (hle.out _).mono ?_
  rintro e w1 ⟨s, rfl, hs, rfl⟩
  obtain ⟨s1, s2, s3⟩ := hs
  obtain ⟨⟨m1, m2⟩, ⟨m3, m4⟩, m5, m6⟩ := shift_math h0 hy l0 l1 s1 s2 s3
  have p0 : (0 : Int) < 2 ^ s := Int.pow_pos (by omega)
  have e4 : bits .or .u64 (h * 2 ^ s) (l / 2 ^ (64 - s)) = h * 2 ^ s + l / 2 ^ (64 - s) :=
    bits_join .u64 64 (by decide) (fun n a b => wraps_u64 n a b) s (h * 2 ^ s) (l / 2 ^ (64 - s)) m1 (Int.mul_emod_left _ _) (by omega) m3 m4 (by omega)
  have e6 : IntKind.u64.wrap (l * 2 ^ s) = l * 2 ^ s % 18446744073709551616 := IntKind.wrap_u64 _
  have e7 := mask_int (y * 2 ^ s) (by omega) s3
  have e8 := mask_int (l * 2 ^ s % 18446744073709551616) (by omega) (by omega)
  replace e4 := Lib.hid e4
  replace e6 := Lib.hid e6
  replace e7 := Lib.hid e7
  replace e8 := Lib.hid e8
  go_upto_region 15 with fail
  rw [e4.out, e6.out, e7.out, e8.out]
  clear e4 e6 e7 e8
  generalize hY : y * 2 ^ s = Y at *
  generalize hU : h * 2 ^ s + l / 2 ^ (64 - s) = U at *
  generalize hL : l * 2 ^ s % 18446744073709551616 = L at *
  have L0 : 0 ≤ L ∧ L ≤ 18446744073709551615 := by omega
  have hdv : Divs (Y / 4294967296) (Y % 4294967296) U (L / 4294967296) := ⟨by omega, by omega, by omega, by omega, by omega, by omega, by omega, by omega⟩
  have hab : Y / 4294967296 * 4294967296 + Y % 4294967296 = Y := by omega
  have hqm := fun q1 q0 => quot_math (q1 := q1) (q0 := q0) hY.symm (by omega) m6
  clear hU hL m1 m2 m3 m4 m6 hY hle
  obtain ⟨L0, L1⟩ := L0
  have v0 : 0 ≤ L % 4294967296 ∧ L % 4294967296 < 4294967296 := by omega
  generalize Y / 4294967296 = a at *
  generalize Y % 4294967296 = b at *
  generalize L / 4294967296 = v at *
  generalize L % 4294967296 = z at *
  have hd1 := Digit.start hdv
  have hst : 0 ≤ U / a ∧ U / a * a ≤ U ∧ U / a ≤ 4294967297 ∧ U % a = U - U / a * a ∧ 0 ≤ U / a * a ∧ U % a < a := by
    have e1 := hd1.left
    have e2 := hd1.r0
    have e3 := hd1.q0
    have e4 := hd1.q1
    have e5 := Int.emod_lt_of_pos U (show 0 < a by have := hdv.a0; omega)
    have e6 := hdv.u0
    have e7 : 0 ≤ U / a * a := Int.mul_nonneg e3 (by have := hdv.a0; omega)
    omega
  obtain ⟨t1, t2, t3, t4, t5, t6⟩ := hst
  rw [t4] at hd1 t6
  clear t4
  obtain ⟨a0, a1, b0, b1, u0, u1, w0, w1'⟩ := id hdv
  have an : a ≠ 0 := by omega
  have ud : IntKind.u64.wrap (U.tdiv a) = U / a := by rw [Int.tdiv_eq_ediv_of_nonneg u0]; exact IntWalk.u64_in _ (by omega)
  have ud' : IntKind.u64.wrap (U / a) = U / a := IntWalk.u64_in _ (by omega)
  obtain ⟨q, hq⟩ : ∃ q, (U * 4294967296 + v) / Y = q := ⟨_, rfl⟩
  obtain ⟨n1, n2, n3, n4⟩ := hqm ((U * 4294967296 + v) / Y) _ rfl rfl
  rw [hq] at n1 n2 n3 n4
  obtain ⟨p, hp⟩ : ∃ p, ((U * 4294967296 + v - q * Y) * 4294967296 + z) / Y = p := ⟨_, rfl⟩
  rw [hp] at n1 n2 n4
  replace n1 := Lib.hid n1
  replace n2 := Lib.hid n2
  have hq' : ∀ x, x = (U * 4294967296 + v) / (a * 4294967296 + b) → x = q := by rw [hab]; rintro _ rfl; exact hq
  have hdv2 : Divs a b (U * 4294967296 + v - q * Y) z := ⟨a0, a1, b0, b1, n3.1, by rw [hab]; exact n3.2, v0.1, v0.2⟩
  have hp' : ∀ x, x = ((U * 4294967296 + v - q * Y) * 4294967296 + z) / (a * 4294967296 + b) → x = p := by rw [hab]; rintro _ rfl; exact hp
  replace hq' := Lib.hid hq'
  replace hp' := Lib.hid hp'
  clear hqm hq hp
  replace hab := Lib.hid hab
  replace hdv := Lib.hid hdv
  replace hdv2 := Lib.hid hdv2
  replace hd1 := Lib.hid hd1
  replace ud := Lib.hid ud
  replace ud' := Lib.hid ud'
  go_upto_block 0 with fail
  try rw [ud.out]
  generalize U / a = Q at *
  go_cut [15, 16] from 67 to 85 (fun s15 s16 wx => wx = w1 ∧ s15 = .int .u64 q ∧ 0 ≤ q ∧ q < 4294967296)
  case first =>
    go_wp2_with fail
    go_loopg [15, 16] 4294967300 (fun kx s15 s16 wr => ∃ x r : Int, s15 = .int .u64 x ∧ s16 = .int .u64 r ∧ x.toNat ≤ kx ∧ r < 4294967296 ∧ wr = w1 ∧ Hid (Digit a b U v x r))
    case atStart => exact ⟨_, _, rfl, rfl, by omega, by omega, rfl, hd1⟩
    case round =>
      obtain ⟨x, r, rfl, rfl, hk, hr1, rfl, hd⟩ := hrel
      obtain ⟨g1, g2⟩ := hd.out.prod hdv.out
      have g3 := hd.out.q0
      have g4 := hd.out.q1
      have g5 := hd.out.r0
      by_cases c1 : 4294967296 ≤ x
      · have c1' : decide (4294967296 ≤ x) = true := by simpa using c1
        obtain ⟨hn, hle⟩ := hd.out.next hdv.out (.inl c1)
        have k2 := (hd.out.over hdv.out (.inl c1)).2
        replace hn := Lib.hid hn
        by_cases c3 : 4294967296 ≤ r + a
        · have c3' : decide (4294967296 ≤ r + a) = true := by simpa using c3
          obtain ⟨f1, f2⟩ := hn.out.late hdv.out hle c3
          replace f1 := Lib.hid (hq'.out _ f1)
          go_wp2
          go_meet
          exact ⟨rfl, by rw [f1.out], by rw [← f1.out]; omega, by rw [← f1.out]; exact f2⟩
        · have c3' : decide (4294967296 ≤ r + a) = false := by simpa using c3
          go_wp2
          go_roundg (x - 1).toNat
          case measure => omega
          case rel => exact ⟨_, _, rfl, rfl, by omega, by omega, rfl, hn⟩
      · have c1' : decide (4294967296 ≤ x) = false := by simpa using c1
        by_cases c2 : 4294967296 * r + v < x * b
        · have c2' : decide (4294967296 * r + v < x * b) = true := by simpa using c2
          obtain ⟨hn, hle⟩ := hd.out.next hdv.out (.inr c2)
          have k2 := (hd.out.over hdv.out (.inr c2)).2
          replace hn := Lib.hid hn
          by_cases c3 : 4294967296 ≤ r + a
          · have c3' : decide (4294967296 ≤ r + a) = true := by simpa using c3
            obtain ⟨f1, f2⟩ := hn.out.late hdv.out hle c3
            replace f1 := Lib.hid (hq'.out _ f1)
            go_wp2
            go_meet
            exact ⟨rfl, by rw [f1.out], by rw [← f1.out]; omega, by rw [← f1.out]; exact f2⟩
          · have c3' : decide (4294967296 ≤ r + a) = false := by simpa using c3
            go_wp2
            go_roundg (x - 1).toNat
            case measure => omega
            case rel => exact ⟨_, _, rfl, rfl, by omega, by omega, rfl, hn⟩
        · have c2' : decide (4294967296 * r + v < x * b) = false := by simpa using c2
          obtain ⟨f1, f2⟩ := hd.out.done hdv.out (by omega)
          replace f1 := Lib.hid (hq'.out _ f1)
          go_wp2
          go_meet
          exact ⟨rfl, by rw [f1.out], by rw [← f1.out]; omega, by rw [← f1.out]; exact f2⟩
  case rest =>
    obtain ⟨rfl, rfl, c1, c2⟩ := hcut
    go_upto_region 22 with fail
    obtain ⟨n31, n32⟩ := n3
    obtain ⟨n41, n42⟩ := n4
    have ws := wrap_sub (x := U * 4294967296) (v := v) (z := q * Y) n31 (by omega)
    rw [ws]
    clear ws
    obtain ⟨z0, z1⟩ := v0
    generalize U * 4294967296 + v - q * Y = R at *
    have hd2 := Digit.start hdv2.out
    have hst2 : 0 ≤ R / a ∧ R / a * a ≤ R ∧ R / a ≤ 4294967297 ∧ R % a = R - R / a * a ∧ 0 ≤ R / a * a ∧ R % a < a := by
      have e1 := hd2.left
      have e2 := hd2.r0
      have e3 := hd2.q0
      have e4 := hd2.q1
      have e5 := Int.emod_lt_of_pos R (show 0 < a by omega)
      have e7 : 0 ≤ R / a * a := Int.mul_nonneg e3 (by omega)
      omega
    obtain ⟨t1', t2', t3', t4', t5', t6'⟩ := hst2
    rw [t4'] at hd2 t6'
    clear t4'
    have ud2 : IntKind.u64.wrap (R.tdiv a) = R / a := by rw [Int.tdiv_eq_ediv_of_nonneg n31]; exact IntWalk.u64_in _ (by omega)
    replace ud2 := Lib.hid ud2
    replace hd2 := Lib.hid hd2
    go_upto_block 2 with fail
    try rw [ud2.out]
    generalize R / a = Q2 at *
    go_cut [18, 16] from 102 to 120 (fun s18 s16 wx => wx = wc ∧ s18 = .int .u64 p ∧ 0 ≤ p ∧ p < 4294967296)
    case first =>
      go_wp2_with fail
      go_loopg [18, 16] 4294967300 (fun kx s18 s16 wr => ∃ x r : Int, s18 = .int .u64 x ∧ s16 = .int .u64 r ∧ x.toNat ≤ kx ∧ r < 4294967296 ∧ wr = wc ∧ Hid (Digit a b R z x r))
      case atStart => exact ⟨_, _, rfl, rfl, by omega, by omega, rfl, hd2⟩
      case round =>
        obtain ⟨x, r, rfl, rfl, hk, hr1, rfl, hd⟩ := hrel
        obtain ⟨g1, g2⟩ := hd.out.prod hdv2.out
        have g3 := hd.out.q0
        have g4 := hd.out.q1
        have g5 := hd.out.r0
        by_cases c1 : 4294967296 ≤ x
        · have c1' : decide (4294967296 ≤ x) = true := by simpa using c1
          obtain ⟨hn, hle⟩ := hd.out.next hdv2.out (.inl c1)
          have k2 := (hd.out.over hdv2.out (.inl c1)).2
          replace hn := Lib.hid hn
          by_cases c3 : 4294967296 ≤ r + a
          · have c3' : decide (4294967296 ≤ r + a) = true := by simpa using c3
            obtain ⟨f1, f2⟩ := hn.out.late hdv2.out hle c3
            replace f1 := Lib.hid (hp'.out _ f1)
            go_wp2
            go_meet
            exact ⟨rfl, by rw [f1.out], by rw [← f1.out]; omega, by rw [← f1.out]; exact f2⟩
          · have c3' : decide (4294967296 ≤ r + a) = false := by simpa using c3
            go_wp2
            go_roundg (x - 1).toNat
            case measure => omega
            case rel => exact ⟨_, _, rfl, rfl, by omega, by omega, rfl, hn⟩
        · have c1' : decide (4294967296 ≤ x) = false := by simpa using c1
          by_cases c2 : 4294967296 * r + z < x * b
          · have c2' : decide (4294967296 * r + z < x * b) = true := by simpa using c2
            obtain ⟨hn, hle⟩ := hd.out.next hdv2.out (.inr c2)
            have k2 := (hd.out.over hdv2.out (.inr c2)).2
            replace hn := Lib.hid hn
            by_cases c3 : 4294967296 ≤ r + a
            · have c3' : decide (4294967296 ≤ r + a) = true := by simpa using c3
              obtain ⟨f1, f2⟩ := hn.out.late hdv2.out hle c3
              replace f1 := Lib.hid (hp'.out _ f1)
              go_wp2
              go_meet
              exact ⟨rfl, by rw [f1.out], by rw [← f1.out]; omega, by rw [← f1.out]; exact f2⟩
            · have c3' : decide (4294967296 ≤ r + a) = false := by simpa using c3
              go_wp2
              go_roundg (x - 1).toNat
              case measure => omega
              case rel => exact ⟨_, _, rfl, rfl, by omega, by omega, rfl, hn⟩
          · have c2' : decide (4294967296 * r + z < x * b) = false := by simpa using c2
            obtain ⟨f1, f2⟩ := hd.out.done hdv2.out (by omega)
            replace f1 := Lib.hid (hp'.out _ f1)
            go_wp2
            go_meet
            exact ⟨rfl, by rw [f1.out], by rw [← f1.out]; omega, by rw [← f1.out]; exact f2⟩
    case rest =>
      obtain ⟨rfl, rfl, d1, d2⟩ := hcut
      have ws := wrap_sub (x := R * 4294967296) (v := z) (z := p * Y) n41 (by omega)
      replace ws := Lib.hid ws
      go_wp2
      rw [ws.out]
      go_ret2
      exact hfin.out _ _ n1.out n2.out _ (Below.refl _ _)
theorem Div64_any (h l y : Int) (w : World) (h0 : 0 ≤ h) (hy : h < y) (y1 : y ≤ 18446744073709551615) (l0 : 0 ≤ l) (l1 : l ≤ 18446744073709551615) :
    Calls Try.prog 93 #[.int .u64 h, .int .u64 l, .int .u64 y] w fun e w' => e = .returned (.tuple #[.int .u64 ((h * 18446744073709551616 + l) / y), .int .u64 ((h * 18446744073709551616 + l) % y)]) ∧ Below w.heap.size w w' := by
  rcases Int.lt_or_le 0 h with h1 | h1
  · exact Div64_large h l y w h1 hy y1 l0 l1
  · obtain rfl : h = 0 := by omega
    rw [Int.zero_mul, Int.zero_add]
    exact Div64_small l y w l0 l1 hy y1

/-- the quotient of two words is right whatever the product is -/
theorem divFor_all (m : Int) : DivFor m := by
  intro a b c w _ c1 c2 hq W _
  have e : ((a * b / 18446744073709551616 : Nat) : Int) * 18446744073709551616 + ((a * b % 18446744073709551616 : Nat) : Int) = ((a * b : Nat) : Int) := by omega
  have hlt : ((a * b : Nat) : Int) < (((a * b : Nat) : Int) / c + 1) * c := Int.lt_ediv_add_one_mul_self _ c1
  have hle : (((a * b : Nat) : Int) / c + 1) * c ≤ 9223372036854775808 * c := Int.mul_le_mul_of_nonneg_right (by omega) (by omega)
  have := Div64_any ((a * b / 18446744073709551616 : Nat) : Int) ((a * b % 18446744073709551616 : Nat) : Int) c W (by omega) (by omega) (by omega) (by omega) (by omega)
  rwa [e] at this
end Go.Proofs.Ytcghafdemklnnaa
