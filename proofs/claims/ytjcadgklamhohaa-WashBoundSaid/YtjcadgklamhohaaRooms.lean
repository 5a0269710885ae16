/- Bound, Vent: how much gas is in a room at most, and which vent is enough. -/
import Derived.Test.YtjcadgklamhohaaAll
namespace Go.Proofs.Ytjcadgklamhohaa
open Go.RowKit Go.Sort
attribute [local go_sem] Oper.calm Oper.calmAt Oper.calmUpon

/-- which test fails first -/
theorem range_cases (m l M L : Int) : (m < 0) ∨ (¬ m < 0 ∧ M < m) ∨ (¬ m < 0 ∧ ¬ M < m ∧ l < 0) ∨ (¬ m < 0 ∧ ¬ M < m ∧ ¬ l < 0 ∧ L < l) ∨ ((0 ≤ m ∧ m ≤ M) ∧ 0 ≤ l ∧ l ≤ L) := by omega

set_option maxHeartbeats 4000000 in
theorem Bound_any (m v : Int) (w : World) : Calls Try.prog 32 #[.int .i64 m, .int .i64 v] w (IntErr (BoundIs m v) w) := by
  have hbad := Lib.hid fun (h : ¬ ((0 ≤ m ∧ m ≤ 1073741824) ∧ 0 ≤ v ∧ v ≤ 1000)) => (show IntErr (BoundIs m v) w (.returned (.tuple #[.int .i64 0, .int .i64 2])) w from ⟨_, _, rfl, .inl ⟨h, rfl, rfl⟩, Below.refl _ _⟩)
  rcases range_cases m v 1073741824 1000 with h | ⟨h1, h⟩ | ⟨h1, h2, h⟩ | ⟨h1, h2, h3, h⟩ | hok
  · replace hbad := Lib.hid (hbad.out (by omega))
    have q1 : decide (m < 0) = true := by simpa using h
    clear h
    go_enter Try.func32, Try.ntmps32
    go_wp2
    go_ret2
    exact hbad.out
  · replace hbad := Lib.hid (hbad.out (by omega))
    have q1 : decide (m < 0) = false := by simpa using h1
    have q2 : decide (1073741824 < m) = true := by simpa using h
    clear h h1
    go_enter Try.func32, Try.ntmps32
    go_wp2
    go_ret2
    exact hbad.out
  · replace hbad := Lib.hid (hbad.out (by omega))
    have q1 : decide (m < 0) = false := by simpa using h1
    have q2 : decide (1073741824 < m) = false := by simpa using h2
    have q3 : decide (v < 0) = true := by simpa using h
    clear h h1 h2
    go_enter Try.func32, Try.ntmps32
    go_wp2
    go_ret2
    exact hbad.out
  · replace hbad := Lib.hid (hbad.out (by omega))
    have q1 : decide (m < 0) = false := by simpa using h1
    have q2 : decide (1073741824 < m) = false := by simpa using h2
    have q3 : decide (v < 0) = false := by simpa using h3
    have q4 : decide (1000 < v) = true := by simpa using h
    clear h h1 h2 h3
    go_enter Try.func32, Try.ntmps32
    go_wp2
    go_ret2
    exact hbad.out
  · clear hbad
    obtain ⟨⟨m0, m1⟩, v0, v1⟩ := id hok
    have q1 : decide (m < 0) = false := by simpa using m0
    have q2 : decide (1073741824 < m) = false := by simpa using m1
    have q3 : decide (v < 0) = false := by simpa using v0
    have q4 : decide (1000 < v) = false := by simpa using v1
    by_cases hm : m = 0
    · have hfin := Lib.hid (show IntErr (BoundIs m v) w (.returned (.tuple #[.int .i64 0, .int .i64 0])) w from ⟨_, _, rfl, .inr ⟨hok, .inr ⟨.inr hm, by unfold boundR; rw [if_pos hm], rfl⟩⟩, Below.refl _ _⟩)
      have q5 : (m == 0) = true := by simpa using hm
      clear hm hok m0 m1 v0 v1
      go_enter Try.func32, Try.ntmps32
      go_wp2
      go_ret2
      exact hfin.out
    · have q5 : (m == 0) = false := by simpa using hm
      by_cases hv : v = 0
      · have hfin := Lib.hid (show IntErr (BoundIs m v) w (.returned (.tuple #[.int .i64 0, .int .i64 12])) w from ⟨_, _, rfl, .inr ⟨hok, .inl ⟨hv, hm, rfl, rfl⟩⟩, Below.refl _ _⟩)
        have q6 : (v == 0) = true := by simpa using hv
        clear hm hv hok m0 m1 v0 v1
        go_enter Try.func32, Try.ntmps32
        go_wp2
        go_ret2
        exact hfin.out
      · have q6 : (v == 0) = false := by simpa using hv
        have hfin := Lib.hid fun W (hB : Below w.heap.size w W) => (show IntErr (BoundIs m v) w (.returned (.tuple #[.int .i64 (upQ (m * (1000 - v)) v), .int .i64 0])) W from ⟨_, _, rfl, .inr ⟨hok, .inr ⟨.inl hv, by unfold boundR; rw [if_neg hm], rfl⟩⟩, hB⟩)
        have e1 := prod_bd (B := 1000) m0 m1 (show 0 ≤ 1000 - v by omega) (by omega)
        have r1 : IntKind.i64.wrap (1000 - v) = 1000 - v := IntWalk.i64_in _ (by omega)
        have r2 : IntKind.i64.wrap (m * (1000 - v)) = m * (1000 - v) := IntWalk.i64_in _ (by omega)
        have hup := Lib.hid fun W => up_any (m * (1000 - v)) v _ W e1.1 (by omega) (by omega) (Lib.hid rfl)
        clear hm hv hok m0 m1 v0 v1 e1
        go_enter Try.func32, Try.ntmps32
        go_wp2_with fail
        refine (hup.out _).mono ?_
        rintro e W1 ⟨rfl, hb⟩
        go_wp2_with fail
        go_ret2
        exact hfin.out _ hb

set_option maxHeartbeats 4000000 in
set_option maxRecDepth 100000 in
theorem Vent_any (m l : Int) (w : World) : Calls Try.prog 34 #[.int .i64 m, .int .i64 l] w (IntErr (VentIs m l) w) := by
  have hbad := Lib.hid fun (h : ¬ ((0 ≤ m ∧ m ≤ 1073741824) ∧ 0 ≤ l ∧ l ≤ 1073741824)) => (show IntErr (VentIs m l) w (.returned (.tuple #[.int .i64 0, .int .i64 2])) w from ⟨_, _, rfl, .inl ⟨h, rfl, rfl⟩, Below.refl _ _⟩)
  rcases range_cases m l 1073741824 1073741824 with h | ⟨h1, h⟩ | ⟨h1, h2, h⟩ | ⟨h1, h2, h3, h⟩ | hok
  · replace hbad := Lib.hid (hbad.out (by omega))
    have q1 : decide (m < 0) = true := by simpa using h
    clear h
    go_enter Try.func34, Try.ntmps34
    go_wp2
    go_ret2
    exact hbad.out
  · replace hbad := Lib.hid (hbad.out (by omega))
    have q1 : decide (m < 0) = false := by simpa using h1
    have q2 : decide (1073741824 < m) = true := by simpa using h
    clear h h1
    go_enter Try.func34, Try.ntmps34
    go_wp2
    go_ret2
    exact hbad.out
  · replace hbad := Lib.hid (hbad.out (by omega))
    have q1 : decide (m < 0) = false := by simpa using h1
    have q2 : decide (1073741824 < m) = false := by simpa using h2
    have q3 : decide (l < 0) = true := by simpa using h
    clear h h1 h2
    go_enter Try.func34, Try.ntmps34
    go_wp2
    go_ret2
    exact hbad.out
  · replace hbad := Lib.hid (hbad.out (by omega))
    have q1 : decide (m < 0) = false := by simpa using h1
    have q2 : decide (1073741824 < m) = false := by simpa using h2
    have q3 : decide (l < 0) = false := by simpa using h3
    have q4 : decide (1073741824 < l) = true := by simpa using h
    clear h h1 h2 h3
    go_enter Try.func34, Try.ntmps34
    go_wp2
    go_ret2
    exact hbad.out
  · clear hbad
    have hbo := Lib.hid fun (v : Int) W => Bound_any m v W
    have hyes := Lib.hid fun (k : Nat) (hk : (k : Int) ≤ 1000) (h : Enough m l k) (hno : ∀ i : Int, 0 ≤ i → i < k → ¬ Enough m l i) W (hB : Below w.heap.size w W) => (show IntErr (VentIs m l) w (.returned (.tuple #[.int .i64 (k : Nat), .int .i64 0])) W from ⟨_, _, rfl, .inr ⟨hok, .inr ⟨rfl, by omega, hk, h, hno⟩⟩, hB⟩)
    have hno := Lib.hid fun (hno : ∀ i : Int, 0 ≤ i → i < (1001 : Nat) → ¬ Enough m l i) W (hB : Below w.heap.size w W) => (show IntErr (VentIs m l) w (.returned (.tuple #[.int .i64 0, .int .i64 12])) W from ⟨_, _, rfl, .inr ⟨hok, .inl ⟨rfl, rfl, fun i h0 h1 => hno i h0 (by omega)⟩⟩, hB⟩)
    have hbb := Lib.hid fun (v : Int) (hv : 0 ≤ v ∧ v ≤ 1000) (h : v ≠ 0 ∨ m = 0) => bound_bd hok.1 hv h
    obtain ⟨⟨m0, m1⟩, l0, l1⟩ := id hok
    have q1 : decide (m < 0) = false := by simpa using m0
    have q2 : decide (1073741824 < m) = false := by simpa using m1
    have q3 : decide (l < 0) = false := by simpa using l0
    have q4 : decide (1073741824 < l) = false := by simpa using l1
    go_enter Try.func34, Try.ntmps34
    go_upto_region 4 with fail
    clear q1 q2 q3 q4
    go_loopw [23] (fun i wr => ∃ k : Nat, k ≤ 1001 ∧ i = .int .i64 k ∧ Below w.heap.size w wr ∧ Hid (∀ i : Int, 0 ≤ i → i < k → ¬ Enough m l i)) (fun i _ => 1001 - (intOf i).toNat)
    case atStart => exact ⟨0, by omega, rfl, Below.refl _ _, Lib.hid fun i h0 h1 => by omega⟩
    case round =>
      obtain ⟨k, hk, rfl, hB, hd⟩ := hrel
      by_cases hlt : k < 1001
      · have hlt' : decide ((k : Int) < 1001) = true := by simp; omega
        have hd2 := Lib.hid (show ¬ Enough m l k → ∀ i : Int, 0 ≤ i → i < ((k + 1 : Nat) : Int) → ¬ Enough m l i from fun h i h0 h1 => by
          by_cases e : i = k
          · subst e; exact h
          · exact hd.out i h0 (by omega))
        replace hyes := Lib.hid (fun h => hyes.out k (by omega) h hd.out)
        clear hno
        go_wp2_with fail
        refine (hbo.out _ _).mono ?_
        rintro e W1 ⟨b, n, rfl, hr, hb⟩
        replace hB := hB.trans (hb.mono hB.size)
        clear hb
        rcases hr with ⟨h1, _⟩ | ⟨_, ⟨h1, h2, rfl, rfl⟩ | ⟨h1, h2, rfl⟩⟩
        · exact absurd ⟨⟨m0, m1⟩, by omega, by omega⟩ h1
        · replace hd2 := Lib.hid (hd2.out (fun h => by have := h.1; omega))
          clear hyes h1 h2
          go_wp2_with fail
          go_roundw
          case rel => exact ⟨k + 1, by omega, by go_num, hB, hd2⟩
          case measure => simp [intOf]; omega
        · have hbb' := hbb.out k (by omega) h1
          rw [← h2] at hbb'
          have r1 : IntKind.i64.wrap (b + m) = b + m := IntWalk.i64_in _ (by omega)
          by_cases hle : b + m ≤ l
          · have q5 : decide (b + m ≤ l) = true := by simpa using hle
            replace hyes := Lib.hid (hyes.out ⟨h1, by rw [← h2]; exact hle⟩)
            clear hd hd2 h1 h2 hle hbb' hbb
            go_wp2_with fail
            go_ret2
            exact hyes.out _ hB
          · have q5 : decide (b + m ≤ l) = false := by simpa using hle
            replace hd2 := Lib.hid (hd2.out (fun h => by have := h.2; rw [← h2] at this; omega))
            clear hd hyes h1 h2 hle hbb' hbb
            go_wp2_with fail
            go_roundw
            case rel => exact ⟨k + 1, by omega, by go_num, hB, hd2⟩
            case measure => simp [intOf]; omega
      · have hk' : k = 1001 := by omega
        subst hk'
        replace hno := Lib.hid (hno.out hd.out)
        clear hd hyes
        go_wp2_with fail
        go_ret2
        exact hno.out _ hB
end Go.Proofs.Ytjcadgklamhohaa
