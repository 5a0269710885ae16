/- From an amount that is at most the bound there is never more in a room. -/
import Derived.Test.YtjcadgklamhohaaAir
namespace Go.Proofs.Ytjcadgklamhohaa
open Go.RowKit Go.Sort

theorem bound_facts {m v b : Int} (hm : 0 ≤ m) (hv : 0 ≤ v ∧ v ≤ 1000) (h : v ≠ 0 ∨ m = 0) (hb : b = boundR m v) : 0 ≤ b ∧ m * (1000 - v) ≤ b * v ∧ (0 < b → (b - 1) * v < m * (1000 - v)) := by
  unfold boundR at hb
  by_cases h0 : m = 0
  · rw [if_pos h0] at hb
    subst hb
    rw [h0]
    exact ⟨by omega, by simp, fun h => by omega⟩
  · rw [if_neg h0] at hb
    have hv0 : 0 < v := by omega
    have e1 := prod_bd (A := m) (B := 1000) hm (Int.le_refl _) (show 0 ≤ 1000 - v by omega) (by omega)
    have e2 := upQ_bd hv0 e1.1
    refine ⟨by omega, ?_, fun _ => ?_⟩
    · rw [hb]; exact le_upQ hv0
    · rcases Int.lt_or_le ((b - 1) * v) (m * (1000 - v)) with h | h
      · exact h
      · have := upQ_le hv0 h; omega
theorem keeps {m v b x y : Int} (hv : 0 ≤ v ∧ v ≤ 1000) (h : m * (1000 - v) ≤ b * v) (hx : 0 ≤ x ∧ x ≤ b) (hy : 0 ≤ y ∧ y ≤ m) : 0 ≤ upQ ((x + y) * (1000 - v)) 1000 ∧ upQ ((x + y) * (1000 - v)) 1000 ≤ b := by
  have e1 := prod_bd (show 0 ≤ x + y by omega) (show x + y ≤ b + m by omega) (show 0 ≤ 1000 - v by omega) (Int.le_refl (1000 - v))
  have e2 : (b + m) * (1000 - v) = b * 1000 - b * v + m * (1000 - v) := by rw [Int.add_mul, Int.mul_sub b]
  exact ⟨(upQ_bd (by omega) e1.1).1, upQ_le (by omega) (by omega)⟩
theorem gas_keeps {m v b s : Int} {L : List (Int × Int)} (hv : 0 ≤ v ∧ v ≤ 1000) (h : m * (1000 - v) ≤ b * v) (hs : 0 ≤ s ∧ s ≤ b) (hL : ∀ i, i < L.length → (L[i]?.getD (0, 0)).1 = 0 ∧ 0 ≤ (L[i]?.getD (0, 0)).2 ∧ (L[i]?.getD (0, 0)).2 ≤ m) :
    ∀ n, n ≤ L.length → (gasAt (1000 - v) (0, s) L n).1 = 0 ∧ 0 ≤ (gasAt (1000 - v) (0, s) L n).2 ∧ (gasAt (1000 - v) (0, s) L n).2 ≤ b
  | 0, _ => ⟨rfl, hs⟩
  | n + 1, hn => by
    obtain ⟨a0, a1⟩ := gas_keeps hv h hs hL n (by omega)
    obtain ⟨b0, b1⟩ := hL n (by omega)
    refine ⟨?_, ?_⟩
    · simp only [gasAt]
      rw [a0, b0]
      simp
    · simp only [gasAt]
      exact keeps hv h a1 b1
theorem air_keeps {m v b s k : Int} {L r : List (Int × Int)} (hm : m ≤ 1048576) (hb : b ≤ 268435456) (hv : 0 ≤ v ∧ v ≤ 1000) (h : m * (1000 - v) ≤ b * v) (hs : 0 ≤ s ∧ s ≤ b) (hL : ∀ i, i < L.length → (L[i]?.getD (0, 0)).1 = 0 ∧ 0 ≤ (L[i]?.getD (0, 0)).2 ∧ (L[i]?.getD (0, 0)).2 ≤ m)
    (hlen : L.length ≤ 60) (ha : AirIs (0, s) L v r k) : k = 0 ∧ r.length = L.length ∧ ∀ i, i < r.length → (r[i]?.getD (0, 0)).1 = 0 ∧ (r[i]?.getD (0, 0)).2 ≤ b := by
  have g := gas_keeps hv h hs hL
  have hro : RoomOk (0, s) L := ⟨⟨Int.le_refl _, hs.1, by show s ≤ _; omega⟩, fun i hi => by obtain ⟨x0, x1, x2⟩ := hL i hi; exact ⟨by omega, by omega, by omega⟩⟩
  have hai : Airy (1000 - v) (0, s) L L.length := fun i hi => by have := (g (i + 1) (by omega)).2.2; omega
  obtain ⟨rfl, rfl⟩ := AirIs.uniq ha (r' := gasN (1000 - v) (0, s) L L.length) (k' := 0) (.inr ⟨by omega, .inr ⟨hro, .inr ⟨hv, .inr ⟨hai, rfl, rfl⟩⟩⟩⟩)
  refine ⟨rfl, gasN_len, fun i hi => ?_⟩
  rw [gasN_len] at hi
  have e : (gasN (1000 - v) (0, s) L L.length)[i]?.getD (0, 0) = gasAt (1000 - v) (0, s) L (i + 1) := by simp [gasN, hi]
  rw [e]
  exact ⟨(g (i + 1) (by omega)).1, (g (i + 1) (by omega)).2.2⟩
theorem air_back {m v b k : Int} {r : List (Int × Int)} (hm : 0 ≤ m ∧ m ≤ 1048576) (hb : 0 < b ∧ b ≤ 268435456) (hv : 0 ≤ v ∧ v ≤ 1000) (h : (b - 1) * v < m * (1000 - v)) (ha : AirIs (b - 1, b - 1) [(m, m)] v r k) :
    k = 0 ∧ r.length = 1 ∧ b ≤ (r[0]?.getD (0, 0)).2 := by
  have e1 := prod_bd (A := 1073741824) (B := 1000) (show 0 ≤ b - 1 + m by omega) (by omega) (show 0 ≤ 1000 - v by omega) (by omega)
  have e2 : (b - 1 + m) * (1000 - v) = (b - 1) * 1000 - (b - 1) * v + m * (1000 - v) := by rw [Int.add_mul, Int.mul_sub (b - 1)]
  have hro : RoomOk (b - 1, b - 1) [(m, m)] := ⟨⟨by show 0 ≤ b - 1; omega, Int.le_refl _, by show b - 1 ≤ _; omega⟩, fun i hi => by
    match i, hi with
    | 0, _ => exact ⟨hm.1, Int.le_refl _, by show m ≤ _; omega⟩
    | i + 1, hi => exact absurd hi (by simp)⟩
  have hai : Airy (1000 - v) (b - 1, b - 1) [(m, m)] 1 := fun i hi => by
    match i, hi with
    | 0, _ => exact upQ_le (by omega) (by show (b - 1 + m) * (1000 - v) ≤ _; omega)
    | i + 1, hi => exact absurd hi (by omega)
  obtain ⟨rfl, rfl⟩ := AirIs.uniq ha (r' := gasN (1000 - v) (b - 1, b - 1) [(m, m)] 1) (k' := 0) (.inr ⟨by simp, .inr ⟨hro, .inr ⟨hv, .inr ⟨hai, rfl, rfl⟩⟩⟩⟩)
  refine ⟨rfl, gasN_len, ?_⟩
  show b ≤ upQ ((b - 1 + m) * (1000 - v)) 1000
  rcases Int.lt_or_le (upQ ((b - 1 + m) * (1000 - v)) 1000) b with h1 | h1
  · have := (upQ_iff (a := (b - 1 + m) * (1000 - v)) (b := 1000) (n := b - 1) (by omega)).1 (by omega)
    omega
  · exact h1
theorem bound_less {m v b v' : Int} (hm : 0 ≤ m) (hv : 0 ≤ v) (h : m * (1000 - v) ≤ b * v) (hb : 0 ≤ b) (h1 : v ≤ v') (h2 : v' ≤ 1000) (h3 : 0 < v') : boundR m v' ≤ b := by
  unfold boundR
  split
  · exact hb
  · have e1 := prod_mono hm (Int.le_refl m) (show 0 ≤ 1000 - v' by omega) (show 1000 - v' ≤ 1000 - v by omega)
    have e2 := prod_mono hb (Int.le_refl b) hv h1
    exact upQ_le h3 (by omega)
/-- what comes in -/
def inL (m : Int) (us : List Int) : List (Int × Int) := us.map fun u => (0, u % (m + 1))
theorem inL_len {m : Int} {us : List Int} : (inL m us).length = us.length := by simp [inL]
theorem inL_take {m : Int} {us : List Int} {k : Nat} (hk : k < us.length) : (inL m us).take (k + 1) = (inL m us).take k ++ [(0, (us[k]?.getD 0) % (m + 1))] := by
  rw [List.take_add_one]
  simp [inL, hk]
theorem inL_in {m : Int} {us : List Int} (hm : 0 ≤ m) : ∀ i, i < (inL m us).length → ((inL m us)[i]?.getD (0, 0)).1 = 0 ∧ 0 ≤ ((inL m us)[i]?.getD (0, 0)).2 ∧ ((inL m us)[i]?.getD (0, 0)).2 ≤ m := fun i hi => by
  rw [inL_len] at hi
  have e : (inL m us)[i]?.getD (0, 0) = (0, us[i] % (m + 1)) := by simp [inL, hi]
  rw [e]
  have e1 := Int.emod_nonneg us[i] (show m + 1 ≠ 0 by omega)
  have e2 := Int.emod_lt_of_pos us[i] (show 0 < m + 1 by omega)
  exact ⟨rfl, e1, by show us[i] % (m + 1) ≤ m; omega⟩
theorem spans_one {w : World} {g : Nat} {t : TypeId} {a b : Int} (h : Blk w g t #[.int .i64 a, .int .i64 b]) : SpansAt w (some ⟨g, 0, none⟩) [(a, b)] := fun _ => ⟨g, 0, rfl, h.lt, fun i hi => by
  match i, hi with
  | 0, _ => exact ⟨h.cell 0, h.cell 1⟩
  | i + 1, hi => exact absurd hi (by simp)⟩
end Go.Proofs.Ytjcadgklamhohaa
