/- The numbers of StrengthSums: parts in another order, true parts, a part alone. -/
import Derived.Test.YtcghafdemklnnaaLawMixes
namespace Go.Proofs.Ytcghafdemklnnaa
open Go.RowKit Go.Sort

def rot (ps : List PartV) (m : Nat) : List PartV := ps.drop m ++ ps.take m
theorem rot_length {ps : List PartV} {m : Nat} : (rot ps m).length = ps.length := by
  unfold rot; simp; omega
theorem sumI_append (f : PartV → Int) (l m : List PartV) : sumI f (l ++ m) = sumI f l + sumI f m := by
  unfold sumI; simp [List.sum_append]
theorem sumI_rot (f : PartV → Int) (ps : List PartV) (m : Nat) : sumI f (rot ps m) = sumI f ps := by
  unfold rot
  rw [sumI_append, Int.add_comm, ← sumI_append, List.take_append_drop]
theorem mem_rot {ps : List PartV} {m : Nat} {p : PartV} : p ∈ rot ps m ↔ p ∈ ps := by
  unfold rot
  rw [List.mem_append, Or.comm, ← List.mem_append, List.take_append_drop]
theorem mixIs_rot {ps : List PartV} {m : Nat} {s a b c d k : Int} (h : MixIs (rot ps m) s a b c d k) : MixIs ps s a b c d k := by
  unfold MixIs at h ⊢
  simpa only [rot_length, sumI_rot, mem_rot] using h
theorem rot_get {ps : List PartV} {t k : Nat} (hk : k < ps.length) : (rot ps (t % ps.length))[k]? = ps[(k + t) % ps.length]? := by
  have h0 : 0 < ps.length := by omega
  have hm : t % ps.length < ps.length := Nat.mod_lt _ h0
  have e : (k + t) % ps.length = (k + t % ps.length) % ps.length := by rw [Nat.add_mod, Nat.mod_eq_of_lt hk]
  rw [e]
  generalize t % ps.length = m at *
  unfold rot
  rcases Nat.lt_or_ge (k + m) ps.length with h | h
  · rw [Nat.mod_eq_of_lt h, List.getElem?_append_left (by simp; omega), List.getElem?_drop, Nat.add_comm]
  · rw [Nat.mod_eq_sub_mod h, Nat.mod_eq_of_lt (by omega), List.getElem?_append_right (by simp; omega), List.getElem?_take, if_pos (by simp; omega)]
    congr 1
    simp
    omega

/-- what is true of parts, added up -/
def amt (a : Nat → Int) : Nat → Int
  | 0 => 0
  | k + 1 => amt a k + a k
theorem amt_between {f g : PartV → Int} {a : Nat → Int} {ps : List PartV} (h : ∀ i p, ps[i]? = some p → f p ≤ a i ∧ a i ≤ g p) : ∀ k, k ≤ ps.length → sumI f (ps.take k) ≤ amt a k ∧ amt a k ≤ sumI g (ps.take k)
  | 0, _ => by simp [sumI, amt]
  | k + 1, hk => by
    obtain ⟨h1, h2⟩ := amt_between h k (by omega)
    obtain ⟨p, hp⟩ : ∃ p, ps[k]? = some p := ⟨_, List.getElem?_eq_getElem (by omega)⟩
    rw [sumI_take hp, sumI_take hp, amt]
    have := h k p hp
    omega
theorem amt_all {f g : PartV → Int} {a : Nat → Int} {ps : List PartV} (h : ∀ i p, ps[i]? = some p → f p ≤ a i ∧ a i ≤ g p) : sumI f ps ≤ amt a ps.length ∧ amt a ps.length ≤ sumI g ps := by
  have := amt_between h ps.length (Nat.le_refl _)
  rwa [List.take_length] at this

theorem sumI_mul (f : PartV → Int) (c : Int) (ps : List PartV) : sumI (fun p => f p * c) ps = sumI f ps * c := by
  induction ps with
  | nil => simp [sumI]
  | cons p ps ih =>
    simp only [sumI, List.map_cons, List.sum_cons] at ih ⊢
    rw [ih, Int.add_mul]
theorem pure_exact {p : PartV} (h : PartOk p) : pureLo p * 10000 ≤ p.al * p.sl ∧ p.ah * p.sh ≤ pureHi p * 10000 := by
  have e4 : 0 ≤ p.ah * p.sh := Int.mul_nonneg (by have := h.1; omega) (by have := h.2; omega)
  unfold pureLo pureHi upDiv
  generalize p.al * p.sl = x at *
  generalize p.ah * p.sh = y at *
  split <;> omega
theorem sums_exact {ps : List PartV} (hall : ∀ p ∈ ps, PartOk p) : sumI pureLo ps * 10000 ≤ sumI (fun p => p.al * p.sl) ps ∧ sumI (fun p => p.ah * p.sh) ps ≤ sumI pureHi ps * 10000 := by
  rw [← sumI_mul, ← sumI_mul]
  exact ⟨sumI_le ps fun p hp => (pure_exact (hall p hp)).1, sumI_le ps fun p hp => (pure_exact (hall p hp)).2⟩

theorem upDiv_mul {x l : Int} (hl : 0 < l) : x ≤ upDiv x l * l := by
  have e1 := Int.emod_add_mul_ediv x l
  have e3 := Int.emod_lt_of_pos x hl
  have e2 := Int.emod_nonneg x (by omega : l ≠ 0)
  have e4 := Int.mul_comm l (x / l)
  unfold upDiv
  split
  · omega
  · have : (x / l + 1) * l = x / l * l + l := by rw [Int.add_mul]; omega
    omega

theorem sums_math {AL AH PL PH s r m c : Int} (h1 : 0 < AL) (h2 : AL ≤ m) (h3 : m ≤ AH) (h4 : AH ≤ 1099511627776) (p0 : 0 ≤ PL) (p1 : PL * 10000 ≤ c) (p2 : c ≤ PH * 10000) (p3 : PL ≤ AL) (p4 : PH ≤ AH) (s0 : 0 ≤ s) (s1 : s ≤ 1000) (r0 : 0 ≤ r) (r1 : r ≤ s) :
    0 ≤ m * r / 10000 ∧ m * r / 10000 ≤ m ∧ 0 ≤ m * r ∧ m * r ≤ 1099511627776000 ∧
    mixAl AL s ≤ m - m * r / 10000 ∧ mixSl AH PL ≤ mixSh AL PH s ∧ 0 ≤ mixSl AH PL ∧ mixSl AH PL ≤ 10000 ∧ mixSl AH PL * m ≤ c ∧ 0 ≤ mixSl AH PL * m ∧ 0 ≤ mixSh AL PH s ∧ mixSh AL PH s ≤ 10000 ∧
    (mixSh AL PH s < 10000 → c - mixSh AL PH s ≤ mixSh AL PH s * (m - m * r / 10000) ∧ mixSh AL PH s * (m - m * r / 10000) ≤ 10995116277760000 ∧ 0 ≤ mixSh AL PH s * (m - m * r / 10000)) := by
  have a1 : AL * (10000 - s) ≤ m * (10000 - s) := Int.mul_le_mul_of_nonneg_right h2 (by omega)
  have a2 : m * (10000 - s) ≤ m * (10000 - r) := Int.mul_le_mul_of_nonneg_left (by omega) (by omega)
  have a3 : m * (10000 - r) = m * 10000 - m * r := Int.mul_sub _ _ _
  have a4 : 0 ≤ m * r := Int.mul_nonneg (by omega) r0
  have a5 : m * r ≤ 1099511627776 * 1000 := Int.mul_le_mul (by omega) (by omega) r0 (by omega)
  have a6 : 0 < AL * (10000 - s) := Int.mul_pos h1 (by omega)
  have a7 : m * r ≤ m * 1000 := Int.mul_le_mul_of_nonneg_left (by omega) (by omega)
  have b0 : 0 ≤ PL * 10000 / AH := Int.ediv_nonneg (by omega) (by omega)
  have b1 : PL * 10000 / AH < 10001 := (Int.ediv_lt_iff_lt_mul (by omega)).2 (by omega)
  have b2 : PL * 10000 / AH * AH ≤ PL * 10000 := Int.ediv_mul_le _ (by omega)
  have b3 : PL * 10000 / AH * m ≤ PL * 10000 / AH * AH := Int.mul_le_mul_of_nonneg_left h3 b0
  have b4 : 0 ≤ PL * 10000 / AH * m := Int.mul_nonneg b0 (by omega)
  have c1 := @upDiv_mul (PH * 10000 * 10000) (AL * (10000 - s)) a6
  have c0 : 0 ≤ upDiv (PH * 10000 * 10000) (AL * (10000 - s)) := by
    have := @upDiv_bd (PH * 10000 * 10000) (AL * (10000 - s))
    have : 0 ≤ PH * 10000 * 10000 / (AL * (10000 - s)) := Int.ediv_nonneg (by omega) (by omega)
    omega
  have c2 : PL * 10000 / AH ≤ upDiv (PH * 10000 * 10000) (AL * (10000 - s)) := by
    rcases Int.lt_or_le (upDiv (PH * 10000 * 10000) (AL * (10000 - s))) (PL * 10000 / AH) with h | h
    · exfalso
      generalize upDiv (PH * 10000 * 10000) (AL * (10000 - s)) = u at *
      generalize PL * 10000 / AH = v at *
      have d1 : u * (AL * (10000 - s)) ≤ u * (AH * 10000) := Int.mul_le_mul_of_nonneg_left (by omega) c0
      have d2 : (u + 1) * AH ≤ v * AH := Int.mul_le_mul_of_nonneg_right (by omega) (by omega)
      have d3 : u * (AH * 10000) = u * AH * 10000 := by rw [Int.mul_assoc]
      have d4 : (u + 1) * AH = u * AH + AH := by rw [Int.add_mul]; omega
      omega
    · exact h
  unfold mixAl mixSl mixSh
  refine ⟨by omega, by omega, a4, by omega, by omega, by omega, b0, by omega, by omega, b4, by omega, by omega, fun hlt => ?_⟩
  have e1 : min (upDiv (PH * 10000 * 10000) (AL * (10000 - s))) 10000 = upDiv (PH * 10000 * 10000) (AL * (10000 - s)) := by omega
  rw [e1] at hlt ⊢
  generalize upDiv (PH * 10000 * 10000) (AL * (10000 - s)) = u at *
  have hle : AL * (10000 - s) ≤ (m - m * r / 10000) * 10000 := by omega
  generalize hL : m - m * r / 10000 = L at *
  have l0 : 0 ≤ L := by omega
  have l1 : L ≤ 1099511627776 := by omega
  have f1 : u * (AL * (10000 - s)) ≤ u * (L * 10000) := Int.mul_le_mul_of_nonneg_left hle c0
  have f2 : u * (L * 10000) = u * L * 10000 := by rw [Int.mul_assoc]
  have f3 : u * L ≤ 10000 * 1099511627776 := Int.mul_le_mul (by omega) l1 l0 (by omega)
  have f4 : 0 ≤ u * L := Int.mul_nonneg c0 l0
  omega

theorem own_math {p : PartV} {a b c d k : Int} (h : PartOk p) (he : p.al = p.ah) (h0 : 0 < p.al) (hm : MixIs [p] 0 a b c d k) : a = p.al ∧ b = p.ah ∧ c ≤ p.sl ∧ p.sh ≤ d ∧ k = 0 := by
  have s1 : ∀ f : PartV → Int, sumI f [p] = f p := fun f => by simp [sumI]
  obtain ⟨⟨o1, o2, o3⟩, o4, o5, o6⟩ := id h
  rcases hm with ⟨h1, _⟩ | ⟨_, ⟨h1, _⟩ | ⟨_, ⟨h1, _⟩ | ⟨_, ⟨h1, _⟩ | ⟨_, ⟨h1, _⟩ | ⟨_, rfl, rfl, rfl, rfl, rfl⟩⟩⟩⟩⟩
  · simp at h1
  · exact absurd (fun q hq => by simp at hq; subst hq; exact h) h1
  · exact absurd (by omega) h1
  · rw [s1] at h1; omega
  · rw [s1] at h1; omega
  · simp only [s1]
    have m1 := (pure_exact h).1
    have m2 := (pure_exact h).2
    have hh := (pure_le h).2
    rw [← he] at m2
    unfold mixAl mixSl mixSh
    have c1 := @upDiv_mul (pureHi p * 10000 * 10000) (p.al * (10000 - 0)) (by omega)
    rw [← he]
    refine ⟨by omega, by simp, ?_, ?_, by simp⟩
    · have : pureLo p * 10000 / p.al < p.sl + 1 := (Int.ediv_lt_iff_lt_mul h0).2 (by
        have : (p.sl + 1) * p.al = p.al * p.sl + p.al := by rw [Int.add_mul, Int.mul_comm p.sl]; omega
        omega)
      omega
    · generalize upDiv (pureHi p * 10000 * 10000) (p.al * (10000 - 0)) = u at *
      rcases Int.lt_or_le u p.sh with hlt | hle
      · exfalso
        have d1 : (u + 1) * p.al ≤ p.sh * p.al := Int.mul_le_mul_of_nonneg_right (by omega) (by omega)
        have d2 : (u + 1) * p.al = u * p.al + p.al := by rw [Int.add_mul]; omega
        have d3 : p.sh * p.al = p.al * p.sh := Int.mul_comm _ _
        have d4 : u * (p.al * (10000 - 0)) = u * p.al * 10000 := by rw [Int.sub_zero, ← Int.mul_assoc]
        omega
      · omega

theorem mixIs_cases {ps : List PartV} {s a b c d k : Int} (h : MixIs ps s a b c d k) : (k ≠ 0 ∧ a = 0 ∧ b = 0 ∧ c = 0 ∧ d = 0) ∨
    (k = 0 ∧ (∀ p ∈ ps, PartOk p) ∧ (0 ≤ s ∧ s ≤ 1000) ∧ sumI (·.ah) ps ≤ 1099511627776 ∧ 0 < sumI (·.al) ps ∧ a = mixAl (sumI (·.al) ps) s ∧ b = sumI (·.ah) ps ∧ c = mixSl (sumI (·.ah) ps) (sumI pureLo ps) ∧ d = mixSh (sumI (·.al) ps) (sumI pureHi ps) s) := by
  rcases h with ⟨_, rfl, rfl, rfl, rfl, rfl⟩ | ⟨_, ⟨_, rfl, rfl, rfl, rfl, rfl⟩ | ⟨h0, ⟨_, rfl, rfl, rfl, rfl, rfl⟩ | ⟨h1, ⟨_, rfl, rfl, rfl, rfl, rfl⟩ | ⟨h2, ⟨_, rfl, rfl, rfl, rfl, rfl⟩ | ⟨h3, e1, e2, e3, e4, e5⟩⟩⟩⟩⟩
  · exact .inl ⟨by decide, rfl, rfl, rfl, rfl⟩
  · exact .inl ⟨by decide, rfl, rfl, rfl, rfl⟩
  · exact .inl ⟨by decide, rfl, rfl, rfl, rfl⟩
  · exact .inl ⟨by decide, rfl, rfl, rfl, rfl⟩
  · exact .inl ⟨by decide, rfl, rfl, rfl, rfl⟩
  · have := (mixIs_sums h0).1
    exact .inr ⟨e5, h0, h1, h2, by omega, e1, e2, e3, e4⟩

theorem sumI_take_le {f : PartV → Int} {ps : List PartV} (h : ∀ p ∈ ps, 0 ≤ f p) (k : Nat) : 0 ≤ sumI f (ps.take k) ∧ sumI f (ps.take k) ≤ sumI f ps := by
  have h0 : ∀ l : List PartV, (∀ p ∈ l, 0 ≤ f p) → 0 ≤ sumI f l := by
    intro l
    induction l with
    | nil => intro _; simp [sumI]
    | cons p l ih =>
      intro hl
      have h1 := ih (fun q hq => hl q (by simp [hq]))
      have h2 := hl p (by simp)
      simp only [sumI, List.map_cons, List.sum_cons] at h1 ⊢
      omega
  have h1 := h0 (ps.take k) (fun p hp => h p (List.mem_of_mem_take hp))
  have h2 := h0 (ps.drop k) (fun p hp => h p (List.mem_of_mem_drop hp))
  have h3 := sumI_append f (ps.take k) (ps.drop k)
  rw [List.take_append_drop] at h3
  omega

/-- the numbers that are true of the parts, by the words -/
def trueA (ps : List PartV) (us : List Int) (i : Nat) : Int := match ps[i]? with
  | some p => innerV p.al p.ah (us[i % us.length]?.getD 0)
  | none => 0
def trueS (ps : List PartV) (us : List Int) (i : Nat) : Int := match ps[i]? with
  | some p => innerV p.sl p.sh (us[(i + 1) % us.length]?.getD 0)
  | none => 0
theorem true_bd {ps : List PartV} {us : List Int} (hall : ∀ p ∈ ps, PartOk p) {i : Nat} {p : PartV} (hp : ps[i]? = some p) :
    (p.al ≤ trueA ps us i ∧ trueA ps us i ≤ p.ah) ∧ (p.sl ≤ trueS ps us i ∧ trueS ps us i ≤ p.sh) ∧ p.al * p.sl ≤ trueA ps us i * trueS ps us i ∧ trueA ps us i * trueS ps us i ≤ p.ah * p.sh := by
  obtain ⟨⟨h1, h2, h3⟩, h4, h5, h6⟩ := hall p (List.mem_of_getElem? hp)
  have e1 : trueA ps us i = innerV p.al p.ah (us[i % us.length]?.getD 0) := by unfold trueA; rw [hp]
  have e2 : trueS ps us i = innerV p.sl p.sh (us[(i + 1) % us.length]?.getD 0) := by unfold trueS; rw [hp]
  have b1 := @innerV_bd p.al p.ah (us[i % us.length]?.getD 0) h1
  have b2 := @innerV_bd p.sl p.sh (us[(i + 1) % us.length]?.getD 0) h4
  rw [e1, e2]
  exact ⟨b1, b2, Int.mul_le_mul b1.1 b2.1 h5 (by omega), Int.mul_le_mul b1.2 b2.2 (by omega) (by omega)⟩
theorem true_sums {ps : List PartV} {us : List Int} (hall : ∀ p ∈ ps, PartOk p) (hb : sumI (·.ah) ps ≤ 1099511627776) (k : Nat) (hk : k ≤ ps.length) :
    (0 ≤ amt (trueA ps us) k ∧ amt (trueA ps us) k ≤ 1099511627776) ∧ (0 ≤ amt (fun i => trueA ps us i * trueS ps us i) k ∧ amt (fun i => trueA ps us i * trueS ps us i) k ≤ 10995116277760000) := by
  obtain ⟨a1, a2⟩ := amt_between (f := (·.al)) (g := (·.ah)) (a := trueA ps us) (fun i p hp => (true_bd hall hp).1) k hk
  obtain ⟨c1, c2⟩ := amt_between (f := fun p => p.al * p.sl) (g := fun p => p.ah * p.sh) (a := fun i => trueA ps us i * trueS ps us i) (fun i p hp => (true_bd hall hp).2.2) k hk
  have b1 := sumI_take_le (f := (·.al)) (ps := ps) (fun p hp => (hall p hp).1.2.1) k
  have b2 := sumI_take_le (f := (·.ah)) (ps := ps) (fun p hp => by have := (hall p hp).1; omega) k
  have b3 := sumI_take_le (f := fun p => p.al * p.sl) (ps := ps) (fun p hp => Int.mul_nonneg (hall p hp).1.2.1 (hall p hp).2.2.1) k
  have b4 := sumI_take_le (f := fun p => p.ah * p.sh) (ps := ps) (fun p hp => Int.mul_nonneg (by have := (hall p hp).1; omega) (by have := (hall p hp).2; omega)) k
  have b5 : sumI (fun p => p.ah * p.sh) ps ≤ sumI (fun p => p.ah * 10000) ps := sumI_le ps fun p hp => Int.mul_le_mul_of_nonneg_left (hall p hp).2.2.2 (by have := (hall p hp).1; omega)
  rw [sumI_mul] at b5
  change _ ≤ sumI (fun p => p.ah) ps * 10000 at b5
  omega
theorem true_all {ps : List PartV} {us : List Int} {s r : Int} (hall : ∀ p ∈ ps, PartOk p) (hb : sumI (·.ah) ps ≤ 1099511627776) (h0 : 0 < sumI (·.al) ps) (s0 : 0 ≤ s) (s1 : s ≤ 1000) (r0 : 0 ≤ r) (r1 : r ≤ s) {m c : Int} (hm : amt (trueA ps us) ps.length = m) (hc : amt (fun i => trueA ps us i * trueS ps us i) ps.length = c) :
    m ≤ sumI (·.ah) ps ∧ 0 ≤ m ∧ (0 ≤ c ∧ c ≤ 10995116277760000) ∧ 0 ≤ m * r / 10000 ∧ m * r / 10000 ≤ m ∧ 0 ≤ m * r ∧ m * r ≤ 1099511627776000 ∧
    mixAl (sumI (·.al) ps) s ≤ m - m * r / 10000 ∧ mixSl (sumI (·.ah) ps) (sumI pureLo ps) ≤ mixSh (sumI (·.al) ps) (sumI pureHi ps) s ∧ 0 ≤ mixSl (sumI (·.ah) ps) (sumI pureLo ps) ∧ mixSl (sumI (·.ah) ps) (sumI pureLo ps) ≤ 10000 ∧ mixSl (sumI (·.ah) ps) (sumI pureLo ps) * m ≤ c ∧ 0 ≤ mixSl (sumI (·.ah) ps) (sumI pureLo ps) * m ∧ 0 ≤ mixSh (sumI (·.al) ps) (sumI pureHi ps) s ∧ mixSh (sumI (·.al) ps) (sumI pureHi ps) s ≤ 10000 ∧
    (mixSh (sumI (·.al) ps) (sumI pureHi ps) s < 10000 → c - mixSh (sumI (·.al) ps) (sumI pureHi ps) s ≤ mixSh (sumI (·.al) ps) (sumI pureHi ps) s * (m - m * r / 10000) ∧ mixSh (sumI (·.al) ps) (sumI pureHi ps) s * (m - m * r / 10000) ≤ 10995116277760000 ∧ 0 ≤ mixSh (sumI (·.al) ps) (sumI pureHi ps) s * (m - m * r / 10000)) := by
  obtain ⟨a1, a2⟩ := amt_all (f := (·.al)) (g := (·.ah)) (a := trueA ps us) (fun i p hp => (true_bd hall hp).1)
  obtain ⟨c1, c2⟩ := amt_all (f := fun p => p.al * p.sl) (g := fun p => p.ah * p.sh) (a := fun i => trueA ps us i * trueS ps us i) (fun i p hp => (true_bd hall hp).2.2)
  obtain ⟨⟨d1, d2⟩, d3, d4⟩ := true_sums (us := us) hall hb ps.length (Nat.le_refl _)
  obtain ⟨e1, e2⟩ := sums_exact hall
  obtain ⟨g1, g2, g3, g4, g5, g6⟩ := mixIs_sums hall
  rw [hm] at a1 a2 d1 d2
  rw [hc] at c1 c2 d3 d4
  exact ⟨a2, d1, ⟨d3, d4⟩, sums_math h0 a1 a2 hb g3 (by omega) (by omega) g4 g6 s0 s1 r0 r1⟩
end Go.Proofs.Ytcghafdemklnnaa
