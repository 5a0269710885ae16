/- StillForever: its model is true. -/
import Derived.Test.YtnfahoomoelmcaaSyL1
import Derived.Test.YtnfahoomoelmcaaMaCycle
namespace Go.Proofs.Ytnfahoomoelmcaa
open Go.RowKit Go.Proofs.Try

theorem itF_le {F K s b : Int} (hK : 0 ≤ K) (hs : s ≤ b) (hg : gF F K b ≤ b) : ∀ n, itF F K s n ≤ b
  | 0 => hs
  | n + 1 => Int.le_trans (gF_mono hK (itF_le hK hs hg n)) hg
theorem itF_rise {F K s : Int} {m : Nat} (h : ∀ j, j < m → itF F K s j < itF F K s (j + 1)) : ∀ k, k ≤ m → itF F K s 0 ≤ itF F K s k
  | 0, _ => Int.le_refl _
  | k + 1, hk => Int.le_trans (itF_rise h k (by omega)) (Int.le_of_lt (h k (by omega)))
/-- what is told, and how it stands to the iterates -/
structure Told (F K s limit most run : Int) : Prop where
  low : -1 ≤ run
  never : run < 0 → most ≤ limit ∧ s ≤ most ∧ gF F K most ≤ most
  ever : 0 ≤ run → limit < most ∧ ∃ m : Nat, run = m ∧ most = itF F K s m ∧ ∀ j, j < m → itF F K s j ≤ limit
theorem told {F K s limit : Int} {r : Int × Int × Int} (h : CycEnd F K s limit r) : r.2.2 = 0 ∧ Told F K s limit r.1 r.2.1 := by
  cases h with
  | over m h1 h2 => exact ⟨rfl, (by show -1 ≤ (m : Int); omega), fun h => absurd h (by show ¬ (m : Int) < 0; omega), fun _ => ⟨h1, m, rfl, rfl, fun j hj => (h2 j hj).1⟩⟩
  | rest m h1 h2 h3 => exact ⟨rfl, (show (-1 : Int) ≤ -1 by decide), fun _ => ⟨h1, itF_rise (fun j hj => (h3 j hj).2) m (Nat.le_refl m), h2⟩, fun h => absurd h (show ¬ (0 : Int) ≤ -1 by decide)⟩
theorem forever_loop {fresh keep : MSpan} {s limit most run : Int} {by' : List Int} (hf : Okay 0 1048576 fresh) (hk : Okay 0 999 keep) (hl : 0 ≤ limit ∧ limit ≤ 1073741824) (hT : Told fresh.hi keep.hi s limit most run) (hs : 0 ≤ s ∧ s ≤ 1048576) (hby : ∀ j, 0 ≤ by'.getD j default ∧ by'.getD j default ≤ 4294967295) (hlen : 0 < by'.length) :
    ∀ (n : Nat) (f : Int) (i : Nat), i ≤ 60 → 62 ≤ n + i → 0 ≤ f → f ≤ itF fresh.hi keep.hi s i → (0 ≤ run → (i : Int) ≤ run) → wormtublaw04_StillForever_l1 fresh keep limit by' (most, run, 0) n (f, itF fresh.hi keep.hi s i, (i : Int)) = some (Lp.done ()) := by
  obtain ⟨a1, a2, a3⟩ := hf
  obtain ⟨b1, b2, b3⟩ := hk
  intro n
  induction n with
  | zero => intro f i _ h; omega
  | succ n ih =>
    intro f i h1 hn hf0 hf1 hir
    rw [wormtublaw04_StillForever_l1]
    dsimp only
    by_cases hi : i < 60
    · rw [cond_t (by simp; omega)]
      by_cases hr : 0 ≤ run ∧ (i : Int) = run
      · rw [cond_t (by simpa using hr)]
        obtain ⟨_, m, e1, e2, _⟩ := hT.ever hr.1
        have e3 : i = m := by omega
        subst e3
        rw [cond_f (by simp [e2])]
      · rw [cond_f (by refine Bool.eq_false_iff.2 fun h => ?_; simp at h; exact hr h)]
        -- the greatest amount is within the limit
        have hg : itF fresh.hi keep.hi s i ≤ limit ∧ (run < 0 → itF fresh.hi keep.hi s i ≤ most) := by
          by_cases h0 : run < 0
          · obtain ⟨k1, k2, k3⟩ := hT.never h0
            have := itF_le (F := fresh.hi) (K := keep.hi) (by omega) k2 k3 i
            exact ⟨by omega, fun _ => this⟩
          · obtain ⟨_, m, e1, e2, e3⟩ := hT.ever (by omega)
            have := hir (by omega)
            exact ⟨e3 i (by omega), fun h => absurd h h0⟩
        rw [cond_f ?_]
        · have m0 := Int.emod_nonneg (i : Int) (b := (by'.length : Int)) (by omega)
          have m1 := Int.emod_lt_of_pos (i : Int) (b := (by'.length : Int)) (by omega)
          have m2 := Int.emod_nonneg ((i : Int) + 1) (b := (by'.length : Int)) (by omega)
          have m3 := Int.emod_lt_of_pos ((i : Int) + 1) (b := (by'.length : Int)) (by omega)
          have m4 := Int.emod_nonneg ((i : Int) + 2) (b := (by'.length : Int)) (by omega)
          have m5 := Int.emod_lt_of_pos ((i : Int) + 2) (b := (by'.length : Int)) (by omega)
          rw [tmod_eq (show (0 : Int) ≤ i by omega), tmod_eq (show (0 : Int) ≤ (i : Int) + 1 by omega), tmod_eq (show (0 : Int) ≤ (i : Int) + 2 by omega)]
          rw [grd_pos ⟨by omega, m0, m1⟩]
          obtain ⟨k, hk, k1, k2⟩ := inner_ok (s := keep) (by omega) (by omega) (by omega) (.inl (by omega)) (hby (Int.toNat ((i : Int) % by'.length)))
          obtain ⟨x, hx, x1, x2⟩ := inner_ok (s := fresh) (by omega) (by omega) (by omega) (.inl (by omega)) (hby (Int.toNat (((i : Int) + 1) % by'.length)))
          rw [bind_ok hk, grd_pos ⟨by omega, by omega, m2, m3⟩, bind_ok hx]
          have p0 : 0 ≤ (f + x) * k := Int.mul_nonneg (by omega) (by omega)
          have p1 : (f + x) * k ≤ (itF fresh.hi keep.hi s i + fresh.hi) * keep.hi := Int.le_trans (Int.mul_le_mul_of_nonneg_right (show f + x ≤ itF fresh.hi keep.hi s i + fresh.hi by omega) (by omega)) (Int.mul_le_mul_of_nonneg_left k2 (by omega))
          have hb := gF_in (F := fresh.hi) (K := keep.hi) (by omega) (by omega) (x := itF fresh.hi keep.hi s i) (by omega)
          rw [tdiv_eq p0, tdiv_eq (show 0 ≤ (f + x) * k + 999 by omega), tdiv_eq (show 0 ≤ (itF fresh.hi keep.hi s i + fresh.hi) * keep.hi + 999 by omega)]
          rw [grd_pos ⟨by omega, by omega, by omega, by omega, by omega, by omega, by omega⟩, grd_pos ⟨by omega, by omega, m4, m5⟩]
          obtain ⟨v, hv, v1, v2⟩ := inner_ok (s := MSpan.mk (((f + x) * k) / 1000) (((f + x) * k + 999) / 1000)) (by dsimp only; omega) (by dsimp only; omega) (by dsimp only; omega) (.inl (by dsimp only; omega)) (hby (Int.toNat (((i : Int) + 2) % by'.length)))
          dsimp only at v1 v2
          rw [bind_ok hv, grd_pos ⟨by omega, by omega, by omega, by omega⟩, grd_pos (by omega)]
          have e : ((i : Int) + 1) = ((i + 1 : Nat) : Int) := by omega
          rw [e]
          refine ih v (i + 1) (by omega) (by omega) (by omega) ?_ (fun h => ?_)
          · show v ≤ gF _ _ _
            unfold gF
            omega
          · have := hir h
            omega
        · refine Bool.eq_false_iff.2 fun h => ?_
          simp only [Bool.or_eq_true, Bool.and_eq_true, decide_eq_true_eq] at h
          omega
    · rw [cond_f (by simp; omega)]

theorem more_true {F K s limit more most run : Int} {r2 : Int × Int × Int} (hK : 0 ≤ K) (hm : ¬ (more < limit ∨ 1073741824 < more)) (hE : CycEnd F K s limit (most, run, 0)) (hE2 : CycEnd F K s more r2) :
    ((((r2.2.2 == 0) && (decide (r2.2.1 < 0) || (decide (0 ≤ run) && decide (run ≤ r2.2.1)))) && (decide (0 ≤ run) || ((r2.1 == most) && (r2.2.1 == (-1)))))) = true := by
  simp only [Bool.or_eq_true, Bool.and_eq_true, decide_eq_true_eq, beq_iff_eq]
  cases hE with
  | over m h1 h2 =>
    refine ⟨⟨(told hE2).1, ?_⟩, .inl (by omega)⟩
    cases hE2 with
    | over m2 k1 k2 =>
      refine .inr ⟨by omega, ?_⟩
      by_cases h : m ≤ m2
      · show (m : Int) ≤ (m2 : Int)
        omega
      · have := (h2 m2 (by omega)).1
        omega
    | rest m2 k1 k2 k3 => exact .inl (show (-1 : Int) < 0 by decide)
  | rest m h1 h2 h3 =>
    refine ⟨⟨(told hE2).1, .inl ?_⟩, .inr ?_⟩
    · cases hE2 with
      | over m2 k1 k2 =>
        have := itF_le hK (itF_rise (fun j hj => (h3 j hj).2) m (Nat.le_refl m)) h2 m2
        simp only [itF] at this
        omega
      | rest m2 k1 k2 k3 => exact (show (-1 : Int) < 0 by decide)
    · cases hE2 with
      | over m2 k1 k2 =>
        have := itF_le hK (itF_rise (fun j hj => (h3 j hj).2) m (Nat.le_refl m)) h2 m2
        simp only [itF] at this
        omega
      | rest m2 k1 k2 k3 =>
        refine ⟨?_, rfl⟩
        have e : m2 = m := by
          rcases Nat.lt_trichotomy m m2 with h | h | h
          · have := (k3 m h).2
            simp only [itF] at this
            omega
          · exact h.symm
          · have := (h3 m2 h).2
            simp only [itF] at this
            omega
        rw [e]
theorem forever_true (fresh keep : MSpan) (start limit more : Int) (by' : List Int) (hby : ∀ j, 0 ≤ by'.getD j default ∧ by'.getD j default ≤ 4294967295) : wormtublaw04_StillForever FU fresh keep start limit more by' = some true := by
  unfold wormtublaw04_StillForever
  by_cases h1 : Okay 0 1073741824 fresh ∧ Okay 0 999 keep
  case neg => rw [bind_ok (cycle_bad h1 FU)]; simp [alive_true]
  by_cases h2 : (0 ≤ start ∧ start ≤ 1073741824) ∧ 0 ≤ limit ∧ limit ≤ 1073741824
  case neg => rw [bind_ok (cycle_range h1.1 h1.2 h2 FU)]; simp [alive_true]
  obtain ⟨r, hr, hE⟩ := cycle_good h1.1 h1.2 h2.1 h2.2
  rw [bind_ok hr]
  obtain ⟨hz, hT⟩ := told hE
  obtain ⟨most, run, z⟩ := r
  simp only at hz hT
  subst hz
  dsimp only
  obtain ⟨h1, h1'⟩ := h1
  obtain ⟨a1, a2, a3⟩ := id h1
  obtain ⟨b1, b2, b3⟩ := id h1'
  rw [cond_f (b := ((0 : Int) != 0)) rfl, cond_f ?_]
  · by_cases h5 : (1048576 < fresh.hi ∨ 1048576 < start) ∨ by'.length = 0
    · rw [cond_t (by simp only [Bool.or_eq_true, decide_eq_true_eq, beq_iff_eq]; omega), bind_ok alive_true]
    · rw [cond_f (by refine Bool.eq_false_iff.2 fun h => ?_; simp only [Bool.or_eq_true, decide_eq_true_eq, beq_iff_eq] at h; omega)]
      have hloop := forever_loop (s := start) ⟨a1, a2, by omega⟩ h1' h2.2 hT (by omega) hby (by omega) FU start 0 (by omega) (by decide) (by omega) (Int.le_refl _) (fun h => h)
      rw [bind_ok (show wormtublaw04_StillForever_l1 fresh keep limit by' (most, run, 0) FU (start, start, 0) = _ from hloop)]
      show wormtublaw04_StillForever_k1 FU fresh keep start limit more (most, run, 0) () = _
      rw [wormtublaw04_StillForever_k1]
      by_cases h6 : more < limit ∨ 1073741824 < more
      · rw [cond_t (by simpa using h6), bind_ok alive_true]
      · rw [cond_f (by simp; omega)]
        obtain ⟨r2, hr2, hE2⟩ := cycle_good h1 h1' h2.1 (limit := more) (by omega)
        rw [bind_ok hr2]
        have key := more_true (by omega) h6 hE hE2
        dsimp only
        rw [key, cond_true, bind_ok alive_true]
        rfl
  · refine Bool.eq_false_iff.2 fun h => ?_
    simp only [Bool.or_eq_true, Bool.and_eq_true, decide_eq_true_eq] at h
    have := hT.low
    rcases h with (h | h) | h
    · omega
    · have := hT.never h.1; omega
    · have := hT.ever h.1; omega
end Go.Proofs.Ytnfahoomoelmcaa
