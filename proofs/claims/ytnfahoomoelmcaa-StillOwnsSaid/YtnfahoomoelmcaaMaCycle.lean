/- Cycle, the program's and the document's, in closed form. -/
import Derived.Test.YtnfahoomoelmcaaMaA
namespace Go.Proofs.Ytnfahoomoelmcaa
open Go.RowKit Go.Proofs.Try

/-- what returns, of what returned before -/
def gF (F K x : Int) : Int := ((x + F) * K + 999) / 1000
def itF (F K s : Int) : Nat → Int
  | 0 => s
  | n + 1 => gF F K (itF F K s n)
theorem gF_mono {F K x y : Int} (hK : 0 ≤ K) (h : x ≤ y) : gF F K x ≤ gF F K y := by
  unfold gF
  have := Int.mul_le_mul_of_nonneg_right (show x + F ≤ y + F by omega) hK
  exact Int.ediv_le_ediv (by omega) (by omega)
theorem gF_in {F K x : Int} (hF : 0 ≤ F ∧ F ≤ 1073741824) (hK : 0 ≤ K ∧ K ≤ 999) (hx : 0 ≤ x ∧ x ≤ 1073741824) : 0 ≤ (x + F) * K ∧ (x + F) * K ≤ 2145386496000 ∧ 0 ≤ gF F K x ∧ gF F K x ≤ 2147483648 := by
  have h1 : 0 ≤ (x + F) * K := Int.mul_nonneg (by omega) hK.1
  have h2 : (x + F) * K ≤ 2147483648 * 999 := by
    have a := Int.mul_le_mul_of_nonneg_right (show x + F ≤ 2147483648 by omega) hK.1
    have b := Int.mul_le_mul_of_nonneg_left hK.2 (show (0 : Int) ≤ 2147483648 by omega)
    omega
  unfold gF
  omega
theorem up_eq {a b : Int} (ha : 0 ≤ a ∧ a ≤ 4611686018427387903) (hb : 0 < b ∧ b ≤ 4611686018427387903) : still_up a b = some ((a + b - 1) / b) := by
  have h := div_in (a := a + b - 1) (b := b) (by omega) hb.1
  rw [still_up, tdiv_eq (by omega), grd_pos ⟨by omega, by omega, by omega, by omega⟩]
theorem upR_eq {a b : Int} (ha : 0 ≤ a ∧ a ≤ 4611686018427387903) (hb : 0 < b ∧ b ≤ 4611686018427387903) : wormtubref04_up a b = some ((a + b - 1) / b) := by
  have h := div_in (a := a + b - 1) (b := b) (by omega) hb.1
  rw [wormtubref04_up, tdiv_eq (by omega), grd_pos ⟨by omega, by omega, by omega, by omega⟩]
theorem up1000 {a : Int} (ha : 0 ≤ a ∧ a ≤ 4611686018427387903) : still_up a 1000 = some ((a + 999) / 1000) := by
  rw [up_eq ha (by omega), show a + 1000 - 1 = a + 999 by omega]
theorem upR1000 {a : Int} (ha : 0 ≤ a ∧ a ≤ 4611686018427387903) : wormtubref04_up a 1000 = some ((a + 999) / 1000) := by
  rw [upR_eq ha (by omega), show a + 1000 - 1 = a + 999 by omega]
/-- how a cycle ends: above the limit, or with what does not rise any more -/
inductive CycEnd (F K s limit : Int) : Int × Int × Int → Prop where
  | over (m : Nat) (h1 : limit < itF F K s m) (h2 : ∀ j, j < m → itF F K s j ≤ limit ∧ itF F K s j < itF F K s (j + 1)) : CycEnd F K s limit (itF F K s m, m, 0)
  | rest (m : Nat) (h1 : itF F K s m ≤ limit) (h2 : gF F K (itF F K s m) ≤ itF F K s m) (h3 : ∀ j, j < m → itF F K s j ≤ limit ∧ itF F K s j < itF F K s (j + 1)) : CycEnd F K s limit (itF F K s m, -1, 0)
theorem cyc_loop {fresh keep : MSpan} {s limit : Int} (hf : 0 ≤ fresh.hi ∧ fresh.hi ≤ 1073741824) (hk : 0 ≤ keep.hi ∧ keep.hi ≤ 999) (hl : 0 ≤ limit ∧ limit ≤ 1073741824) (hs : 0 ≤ s ∧ s ≤ 1073741824) : ∀ (n m : Nat), limit - itF fresh.hi keep.hi s m + 2 ≤ n → 1 ≤ n → (m : Int) ≤ itF fresh.hi keep.hi s m → (∀ j, j < m → itF fresh.hi keep.hi s j ≤ limit ∧ itF fresh.hi keep.hi s j < itF fresh.hi keep.hi s (j + 1)) →
    ∃ r, ((still_Cycle_l1 fresh keep limit n ((m : Int), itF fresh.hi keep.hi s m)).bind fun lr1 => lr1.go fun x1 => still_Cycle_k1 x1) = some r ∧ CycEnd fresh.hi keep.hi s limit r := by
  intro n
  induction n with
  | zero => intro m _ h; omega
  | succ n ih =>
    intro m hn _ hm hj
    rw [still_Cycle_l1]
    dsimp only
    by_cases hle : itF fresh.hi keep.hi s m ≤ limit
    · have hb := gF_in hf hk (x := itF fresh.hi keep.hi s m) (by omega)
      rw [cond_t (by simpa using hle), grd_pos ⟨by omega, by omega⟩, bind_ok (up1000 (by omega))]
      show ∃ r, ((bif decide (gF fresh.hi keep.hi (itF fresh.hi keep.hi s m) ≤ itF fresh.hi keep.hi s m) then _ else _ : Option _).bind _) = _ ∧ _
      by_cases hr : gF fresh.hi keep.hi (itF fresh.hi keep.hi s m) ≤ itF fresh.hi keep.hi s m
      · rw [cond_t (by simpa using hr)]
        exact ⟨_, rfl, .rest m hle hr hj⟩
      · rw [cond_f (by simpa using hr), grd_pos (by omega)]
        have e : ((m : Int) + 1) = ((m + 1 : Nat) : Int) := by omega
        rw [e]
        have hlt : itF fresh.hi keep.hi s m < itF fresh.hi keep.hi s (m + 1) := by show _ < gF _ _ _; omega
        refine ih (m + 1) (by omega) (by omega) (by omega) fun j hj' => ?_
        by_cases hjm : j = m
        · subst hjm; exact ⟨hle, hlt⟩
        · exact hj j (by omega)
    · rw [cond_f (by simpa using hle)]
      exact ⟨_, rfl, .over m (by omega) hj⟩
theorem cycle_bad {fresh keep : MSpan} {start limit : Int} (h : ¬ (Okay 0 1073741824 fresh ∧ Okay 0 999 keep)) (n : Nat) : still_Cycle n fresh keep start limit = some (0, 0, 1) := by
  unfold still_Cycle
  simp only [covers_eq, Option.bind_some]
  by_cases h1 : Okay 0 1073741824 fresh
  · have h2 : ¬ Okay 0 999 keep := fun h2 => h ⟨h1, h2⟩
    simp [h1, h2]
  · simp [h1]
theorem cycle_range {fresh keep : MSpan} {start limit : Int} (h1 : Okay 0 1073741824 fresh) (h2 : Okay 0 999 keep) (h : ¬ ((0 ≤ start ∧ start ≤ 1073741824) ∧ 0 ≤ limit ∧ limit ≤ 1073741824)) (n : Nat) : still_Cycle n fresh keep start limit = some (0, 0, 2) := by
  unfold still_Cycle
  simp only [covers_eq, Option.bind_some, h1, h2, decide_true, Bool.not_true, Bool.not_false, cond_true, Bool.or_self, cond_false]
  rw [cond_t]
  simp
  omega
theorem cycle_good {fresh keep : MSpan} {start limit : Int} (h1 : Okay 0 1073741824 fresh) (h2 : Okay 0 999 keep) (h3 : 0 ≤ start ∧ start ≤ 1073741824) (h4 : 0 ≤ limit ∧ limit ≤ 1073741824) : ∃ r, still_Cycle FU fresh keep start limit = some r ∧ CycEnd fresh.hi keep.hi start limit r := by
  unfold still_Cycle
  simp only [covers_eq, Option.bind_some, h1, h2, decide_true, Bool.not_true, Bool.not_false, cond_true, Bool.or_self, cond_false]
  rw [cond_f (by simp; omega)]
  obtain ⟨a1, a2, a3⟩ := h1
  obtain ⟨b1, b2, b3⟩ := h2
  refine cyc_loop (by omega) (by omega) h4 h3 FU 0 ?_ (by decide) (show (0 : Int) ≤ start by omega) (fun j hj => absurd hj (by omega))
  show limit - start + 2 ≤ ((1099511627776 : Nat) : Int)
  omega
end Go.Proofs.Ytnfahoomoelmcaa
