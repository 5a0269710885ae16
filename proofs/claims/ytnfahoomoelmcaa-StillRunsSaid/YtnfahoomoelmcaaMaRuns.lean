/- StillRuns: its model is true. -/
import Derived.Test.YtnfahoomoelmcaaSyL1
import Derived.Test.YtnfahoomoelmcaaMaPlates
namespace Go.Proofs.Ytnfahoomoelmcaa
open Go.RowKit Go.Proofs.Try

theorem itF_le' {F K s b : Int} (hK : 0 ≤ K) (hs : s ≤ b) (hg : gF F K b ≤ b) : ∀ n, itF F K s n ≤ b
  | 0 => hs
  | n + 1 => Int.le_trans (gF_mono hK (itF_le' hK hs hg n)) hg
theorem itF_rise' {F K s : Int} {m : Nat} (h : ∀ j, j < m → itF F K s j < itF F K s (j + 1)) : ∀ k, k ≤ m → itF F K s 0 ≤ itF F K s k
  | 0, _ => Int.le_refl _
  | k + 1, hk => Int.le_trans (itF_rise' h k (by omega)) (Int.le_of_lt (h k (by omega)))
theorem CycEnd.same {F K s limit : Int} {r r' : Int × Int × Int} (hK : 0 ≤ K) (h : CycEnd F K s limit r) (h' : CycEnd F K s limit r') : r = r' := by
  cases h with
  | over m h1 h2 =>
    cases h' with
    | over l k1 k2 =>
      have e : m = l := by
        rcases Nat.lt_trichotomy m l with h | h | h
        · have := (k2 m h).1; omega
        · exact h
        · have := (h2 l h).1; omega
      rw [e]
    | rest l k1 k2 k3 =>
      have := itF_le' hK (itF_rise' (fun j hj => (k3 j hj).2) l (Nat.le_refl l)) k2 m
      simp only [itF] at this
      omega
  | rest m h1 h2 h3 =>
    cases h' with
    | over l k1 k2 =>
      have := itF_le' hK (itF_rise' (fun j hj => (h3 j hj).2) m (Nat.le_refl m)) h2 l
      simp only [itF] at this
      omega
    | rest l k1 k2 k3 =>
      have e : m = l := by
        rcases Nat.lt_trichotomy m l with h | h | h
        · have := (k3 m h).2
          simp only [itF] at this
          omega
        · exact h
        · have := (h3 l h).2
          simp only [itF] at this
          omega
      rw [e]
/-- what falls, falls until it rests -/
theorem fall_loop {fresh keep : MSpan} {limit top : Int} (hf : 0 ≤ fresh.hi ∧ fresh.hi ≤ 1073741824) (hk : 0 ≤ keep.hi ∧ keep.hi ≤ 999) (hl : 0 ≤ limit ∧ limit ≤ 1073741824) (ht : top ≤ limit) : ∀ (n : Nat) (f run : Int), f + 1 ≤ n → 1 ≤ n → 0 ≤ f → f ≤ top → gF fresh.hi keep.hi f ≤ f → 0 ≤ run → run + n ≤ 4611686018427387904 → wormtubref04_Cycle_l1 fresh keep limit n (f, top, run) = some (Lp.ret (top, -1, 0)) := by
  intro n
  induction n with
  | zero => intro f run _ h; omega
  | succ n ih =>
    intro f run h1 _ h0 h2 h3 h4 h5
    rw [wormtubref04_Cycle_l1]
    have hb := gF_in hf hk (x := f) (by omega)
    have hu := upR1000 (a := (f + fresh.hi) * keep.hi) (by omega)
    rw [cond_f (by simp; omega), grd_pos ⟨by dsimp only; omega, by dsimp only; omega⟩]
    refine (bind_ok hu _).trans ?_
    show (bif (gF fresh.hi keep.hi f == f) then _ else _ : Option _) = _
    by_cases e : gF fresh.hi keep.hi f = f
    · rw [cond_t (by simpa using e)]
      show some (Lp.ret (max top f, -1, 0)) = _
      rw [show max top f = top by omega]
    · rw [cond_f (by simpa using e), grd_pos (by dsimp only; omega)]
      show wormtubref04_Cycle_l1 fresh keep limit n (gF fresh.hi keep.hi f, max top f, run + 1) = _
      rw [show max top f = top by omega]
      exact ih _ _ (by omega) (by omega) (by omega) (by omega) (gF_mono hk.1 h3) (by omega) (by omega)
theorem cycR_loop {fresh keep : MSpan} {s limit : Int} (hf : 0 ≤ fresh.hi ∧ fresh.hi ≤ 1073741824) (hk : 0 ≤ keep.hi ∧ keep.hi ≤ 999) (hl : 0 ≤ limit ∧ limit ≤ 1073741824) (hs : 0 ≤ s ∧ s ≤ 1073741824) : ∀ (n m : Nat) (top : Int), limit - itF fresh.hi keep.hi s m + 1073741830 ≤ n → 1 ≤ n → (m : Int) ≤ itF fresh.hi keep.hi s m → n ≤ 2000000000000 → top ≤ itF fresh.hi keep.hi s m → (∀ j, j < m → itF fresh.hi keep.hi s j ≤ limit ∧ itF fresh.hi keep.hi s j < itF fresh.hi keep.hi s (j + 1)) →
    ∃ r, wormtubref04_Cycle_l1 fresh keep limit n (itF fresh.hi keep.hi s m, top, (m : Int)) = some (Lp.ret r) ∧ CycEnd fresh.hi keep.hi s limit r := by
  intro n
  induction n with
  | zero => intro m top _ h; omega
  | succ n ih =>
    intro m top hn _ hm hn2 htop hj
    rw [wormtubref04_Cycle_l1]
    by_cases hle : itF fresh.hi keep.hi s m ≤ limit
    · have hb := gF_in hf hk (x := itF fresh.hi keep.hi s m) (by omega)
      have hu := upR1000 (a := (itF fresh.hi keep.hi s m + fresh.hi) * keep.hi) (by omega)
      rw [cond_f (by simp; omega), grd_pos ⟨by dsimp only; omega, by dsimp only; omega⟩]
      rw [show ∀ g : Int → Option (Lp Unit (Int × Int × Int)), (wormtubref04_up ((itF fresh.hi keep.hi s m + fresh.hi) * keep.hi) 1000).bind g = g (gF fresh.hi keep.hi (itF fresh.hi keep.hi s m)) from fun g => bind_ok hu g]
      by_cases e : gF fresh.hi keep.hi (itF fresh.hi keep.hi s m) = itF fresh.hi keep.hi s m
      · rw [cond_t (by simpa using e)]
        refine ⟨_, rfl, ?_⟩
        dsimp only
        rw [show max top (itF fresh.hi keep.hi s m) = itF fresh.hi keep.hi s m by omega]
        exact .rest m hle (by omega) hj
      · rw [cond_f (by simpa using e), grd_pos (by dsimp only; omega)]
        dsimp only
        rw [show max top (itF fresh.hi keep.hi s m) = itF fresh.hi keep.hi s m by omega]
        by_cases hr : gF fresh.hi keep.hi (itF fresh.hi keep.hi s m) ≤ itF fresh.hi keep.hi s m
        · refine ⟨_, fall_loop hf hk hl hle n _ _ (by omega) (by omega) (by omega) hr (gF_mono hk.1 hr) (by omega) (by omega), .rest m hle hr hj⟩
        · have e1 : ((m : Int) + 1) = ((m + 1 : Nat) : Int) := by omega
          rw [e1]
          have hlt : itF fresh.hi keep.hi s m < itF fresh.hi keep.hi s (m + 1) := by show _ < gF _ _ _; omega
          refine ih (m + 1) _ (by omega) (by omega) (by omega) (by omega) (by omega) fun j hj' => ?_
          by_cases hjm : j = m
          · subst hjm; exact ⟨hle, hlt⟩
          · exact hj j (by omega)
    · rw [cond_t (by simp; omega)]
      exact ⟨_, rfl, .over m (by omega) hj⟩
theorem cycleR_eq (fresh keep : MSpan) (start limit : Int) : ∃ r, still_Cycle FU fresh keep start limit = some r ∧ wormtubref04_Cycle FU fresh keep start limit = some r := by
  by_cases h1 : Okay 0 1073741824 fresh ∧ Okay 0 999 keep
  case neg =>
    refine ⟨_, cycle_bad h1 FU, ?_⟩
    unfold wormtubref04_Cycle
    simp only [within_eq, Option.bind_some]
    by_cases h2 : Okay 0 1073741824 fresh
    · have h3 : ¬ Okay 0 999 keep := fun h3 => h1 ⟨h2, h3⟩
      simp [h2, h3]
    · simp [h2]
  by_cases h2 : (0 ≤ start ∧ start ≤ 1073741824) ∧ 0 ≤ limit ∧ limit ≤ 1073741824
  case neg =>
    refine ⟨_, cycle_range h1.1 h1.2 h2 FU, ?_⟩
    unfold wormtubref04_Cycle
    simp only [within_eq, in_eq, Option.bind_some, h1.1, h1.2, decide_true, Bool.not_true, Bool.not_false, cond_true, Bool.or_self, cond_false]
    by_cases h3 : 0 ≤ start ∧ start ≤ 1073741824
    · have h4 : ¬ (0 ≤ limit ∧ limit ≤ 1073741824) := fun h4 => h2 ⟨h3, h4⟩
      simp [h3, h4]
    · simp [h3]
  obtain ⟨r, hr, hE⟩ := cycle_good h1.1 h1.2 h2.1 h2.2
  refine ⟨r, hr, ?_⟩
  unfold wormtubref04_Cycle
  simp only [within_eq, in_eq, Option.bind_some, h1.1, h1.2, h2.1, h2.2, and_self, decide_true, Bool.not_true, Bool.not_false, cond_true, Bool.or_self, cond_false]
  obtain ⟨a1, a2, a3⟩ := h1.1
  obtain ⟨b1, b2, b3⟩ := h1.2
  obtain ⟨r', k1, k2⟩ := cycR_loop (fresh := fresh) (keep := keep) (by omega) (by omega) h2.2 h2.1 FU 0 start (by show limit - start + 1073741830 ≤ ((1099511627776 : Nat) : Int); omega) (by decide) (show (0 : Int) ≤ start by omega) (by decide) (Int.le_refl _) (fun j hj => absurd hj (by omega))
  rw [hE.same (by omega) k2]
  rw [show wormtubref04_Cycle_l1 fresh keep limit FU (start, start, 0) = _ from k1]
  rfl
theorem times_eq {a l e : Int} (ha : 0 ≤ a - l) (ha2 : a - l ≤ 9223372036854775807) (he : 0 ≤ e) : wormtubref04_times a e l = some (rn (a - l) e) := by
  unfold wormtubref04_times rn
  by_cases h : e = 0
  · rw [cond_t (by simpa using h), if_pos h]
  · have hd := div_in ha (show 0 < e by omega)
    rw [cond_f (by simp [h]), if_neg h, tdiv_eq ha, grd_pos ⟨by omega, h, by omega⟩]
theorem wearR_eq (thick wear : MSpan) (least : Int) : wormtubref04_Wear thick wear least = still_Wear thick wear least := by
  rw [wear_eq]
  unfold wormtubref04_Wear
  simp only [within_eq, in_eq, Option.bind_some]
  by_cases h1 : Okay 0 1073741824 thick
  · simp only [h1, decide_true, Bool.not_true, Bool.not_false, cond_true, Option.bind_some, Bool.false_or, true_and]
    by_cases h2 : Okay 0 1073741824 wear
    · simp only [h2, decide_true, Bool.not_true, cond_false, not_true_eq_false, if_false]
      by_cases h3 : least < 0 ∨ 1073741824 < least
      · rw [if_pos h3, cond_t (by simp; omega)]
      · rw [if_neg h3, cond_f (by simp; omega)]
        by_cases h4 : thick.lo < least
        · rw [if_pos h4, cond_t (by simpa using h4)]
        · obtain ⟨a1, a2, a3⟩ := h1
          obtain ⟨b1, b2, b3⟩ := h2
          rw [if_neg h4, cond_f (by simpa using h4), bind_ok (times_eq (by omega) (by omega) (by omega)), bind_ok (times_eq (by omega) (by omega) (by omega))]
    · simp only [h2, decide_false, Bool.not_false, cond_true, not_false_eq_true, if_true]
  · simp only [h1, decide_false, Bool.not_false, Bool.not_true, cond_false, Option.bind_some, Bool.true_or, cond_true, false_and, not_false_eq_true, if_true]
theorem platesR_eq (c : MCurve) (f t : Int) (hl : c.liquid.length ≤ 140737488355328) : ∃ r, still_Plates FU c f t = some r ∧ wormtubref04_Plates FU c f t = some r := by
  by_cases h : Valid c
  · by_cases hr : (0 ≤ f ∧ f ≤ 10000) ∧ 0 ≤ t ∧ t ≤ 10000
    · obtain ⟨p, s, hp, hs, e⟩ := plates_good h hl hr.1 hr.2
      exact ⟨_, e, platesR_good h hl hr.1 hr.2 hp hs⟩
    · exact ⟨_, (plates_range h hl hr).1, (plates_range h hl hr).2⟩
  · exact ⟨_, (plates_bad h hl).1, (plates_bad h hl).2⟩
theorem runs_true (fresh keep : MSpan) (start limit : Int) (thick wear : MSpan) (least : Int) (c : MCurve) (f t : Int) (hl : c.liquid.length ≤ 140737488355328) : wormtublaw04_StillRuns FU fresh keep start limit thick wear least c f t = some true := by
  unfold wormtublaw04_StillRuns wormtublaw04_long
  rw [Option.bind_some]
  cases (decide (40 < (c.liquid.length : Int)) || decide (40 < (c.vapour.length : Int)) || decide (70 < (([] : List Int).length : Int))) with
  | true => rw [cond_t rfl, bind_ok alive_true]
  | false =>
    obtain ⟨r3, e3, e4⟩ := cycleR_eq fresh keep start limit
    obtain ⟨r7, e7, e8⟩ := platesR_eq c f t hl
    have e5 := wear_eq thick wear least
    have e6 := (wearR_eq thick wear least).trans e5
    rw [cond_f rfl, bind_ok e3, bind_ok e4, bind_ok e5, bind_ok e6, bind_ok e7, bind_ok e8]
    simp only [beq_self_eq_true, Bool.and_self, cond_true, alive_true, Option.bind_some]
end Go.Proofs.Ytnfahoomoelmcaa
