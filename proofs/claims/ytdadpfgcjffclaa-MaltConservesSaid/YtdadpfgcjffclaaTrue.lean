/- What is true of malt stays within what is known, step by step. -/
import Derived.Test.YtdadpfgcjffclaaRefPlay
import Derived.Test.YtdadpfgcjffclaaParts
namespace Go.Proofs.Ytdadpfgcjffclaa
open Go.RowKit

/-- true amounts -/
structure Tr where
  dry : Int
  water : Int
  phen : Int
  tak : Int
  gas : Int
  root : Int
  steam : Int
structure Tr.In (T : Tr) (q : Gr) : Prop where
  d : q.d1 ≤ T.dry ∧ T.dry ≤ q.d2
  w : q.w1 ≤ T.water ∧ T.water ≤ q.w2
  p : q.p1 ≤ T.phen ∧ T.phen ≤ q.p2
  t : q.t1 ≤ T.tak ∧ T.tak ≤ q.t2
  g : q.g1 ≤ T.gas ∧ T.gas ≤ q.g2
  r : q.r1 ≤ T.root ∧ T.root ≤ q.r2
  s : q.s1 ≤ T.steam ∧ T.steam ≤ q.s2
/-- nothing is lost without a name -/
def Tr.Sum (T : Tr) (first : Int) : Prop := first + T.tak = T.dry + T.water + T.gas + T.root + T.steam

section
variable {g h : Gr} {x y v : Int} {T : Tr}
theorem tr_steep (he : doG g 0 x y = some h) (hT : T.In g) (h1 : x ≤ v) (h2 : v ≤ y) : Tr.In { T with water := T.water + v, tak := T.tak + v } h := by
  obtain ⟨⟨a1, a2⟩, ⟨a3, a4⟩, a5, ⟨a6, a7⟩, a8, a9, a10⟩ := hT
  cases he
  exact ⟨⟨a1, a2⟩, ⟨by dsimp only; omega, by dsimp only; omega⟩, a5, ⟨by dsimp only; omega, by dsimp only; omega⟩, a8, a9, a10⟩
theorem tr_sprout (hg : g.Ok) (hx : SpOk x y 10000) (he : doG g 1 x y = some h) (hT : T.In g) (h1 : (x * T.dry + 9999) / 10000 ≤ v) (h2 : v ≤ y * T.dry / 10000) : Tr.In { T with dry := T.dry - v, gas := T.gas + v } h := by
  obtain ⟨⟨a1, a2⟩, a3, a5, a6, ⟨a8, a9⟩, a10, a11⟩ := hT
  obtain ⟨x0, x1, x2⟩ := hx
  have d0 := hg.d.1
  have f1 : x * g.d1 ≤ x * T.dry := Int.mul_le_mul_of_nonneg_left a1 x0
  have f2 : y * T.dry ≤ y * g.d2 := Int.mul_le_mul_of_nonneg_left a2 (by omega)
  have f3 : (10000 - y) * g.d1 ≤ 10000 * T.dry - y * T.dry := by rw [← Int.sub_mul]; exact Int.mul_le_mul_of_nonneg_left a1 (by omega)
  have f4 : 10000 * T.dry - x * T.dry ≤ (10000 - x) * g.d2 := by rw [← Int.sub_mul]; exact Int.mul_le_mul_of_nonneg_left a2 (by omega)
  have e : doG g 1 x y = sproutG g x y := rfl
  rw [e] at he
  unfold sproutG upQ at he
  split at he
  · cases he
    exact ⟨⟨by dsimp only; omega, by dsimp only; omega⟩, a3, a5, a6, ⟨by dsimp only; omega, by dsimp only; omega⟩, a10, a11⟩
  · cases he
theorem tr_kiln (hx : SpOk x y 10000) (he : doG g 2 x y = some h) (hT : T.In g) (h1 : (x * T.dry + 9999) / 10000 ≤ v) (h2 : v ≤ min (y * T.dry / 10000) T.water) : Tr.In { T with water := v, steam := T.steam + T.water - v } h := by
  obtain ⟨⟨a1, a2⟩, ⟨a3, a4⟩, a5, a6, a8, a10, ⟨a11, a12⟩⟩ := hT
  obtain ⟨x0, x1, x2⟩ := hx
  have f1 : x * g.d1 ≤ x * T.dry := Int.mul_le_mul_of_nonneg_left a1 x0
  have f2 : y * T.dry ≤ y * g.d2 := Int.mul_le_mul_of_nonneg_left a2 (by omega)
  have e : doG g 2 x y = kilnG g x y := rfl
  rw [e] at he
  unfold kilnG upQ at he
  split at he
  · cases he
    exact ⟨⟨a1, a2⟩, ⟨by dsimp only; omega, by dsimp only; omega⟩, a5, a6, a8, a10, ⟨by dsimp only; omega, by dsimp only; omega⟩⟩
  · cases he
theorem tr_peat (hx : SpOk x y 1048576) (he : doG g 3 x y = some h) (hT : T.In g) (h1 : (x * T.dry + 999) / 1000 ≤ v) (h2 : v ≤ y * T.dry / 1000) : Tr.In { T with phen := T.phen + v } h := by
  obtain ⟨⟨a1, a2⟩, a3, ⟨a4, a5⟩, a6, a8, a10, a11⟩ := hT
  obtain ⟨x0, x1, x2⟩ := hx
  have f1 : x * g.d1 ≤ x * T.dry := Int.mul_le_mul_of_nonneg_left a1 x0
  have f2 : y * T.dry ≤ y * g.d2 := Int.mul_le_mul_of_nonneg_left a2 (by omega)
  have e : doG g 3 x y = peatG g x y := rfl
  rw [e] at he
  unfold peatG upQ at he
  split at he
  · cases he
    exact ⟨⟨a1, a2⟩, a3, ⟨by dsimp only; omega, by dsimp only; omega⟩, a6, a8, a10, a11⟩
  · cases he
theorem tr_sieve (he : doG g 4 x y = some h) (hT : T.In g) (h1 : x ≤ v) (h2 : v ≤ min y T.dry) : Tr.In { T with dry := T.dry - v, root := T.root + v } h := by
  obtain ⟨⟨a1, a2⟩, a3, a4, a6, a8, ⟨a10, a11⟩, a12⟩ := hT
  have e : doG g 4 x y = sieveG g x y := rfl
  rw [e] at he
  unfold sieveG at he
  split at he
  · cases he
    exact ⟨⟨by dsimp only; omega, by dsimp only; omega⟩, a3, a4, a6, a8, ⟨by dsimp only; omega, by dsimp only; omega⟩, a12⟩
  · cases he
theorem tr_weigh (he : doG g 5 x y = some h) (hT : T.In g) (h1 : x ≤ T.dry + T.water) (h2 : T.dry + T.water ≤ y) : Tr.In T h := by
  obtain ⟨⟨a1, a2⟩, ⟨a3, a4⟩, a5, a6, a8, a10, a12⟩ := hT
  have e : doG g 5 x y = weighG g x y := rfl
  rw [e] at he
  unfold weighG at he
  split at he
  · cases he
    exact ⟨⟨by dsimp only; omega, by dsimp only; omega⟩, ⟨by dsimp only; omega, by dsimp only; omega⟩, a5, a6, a8, a10, a12⟩
  · cases he
end

theorem moist_true {d1 d2 w1 w2 p1 p2 a b dry water : Int} (hm : MoistIs d1 d2 w1 w2 p1 p2 a b 0) (h1 : d1 ≤ dry ∧ dry ≤ d2) (h2 : w1 ≤ water ∧ water ≤ w2) :
    (a * (dry + water) ≤ 10000 * water ∧ 10000 * water ≤ b * (dry + water)) ∧ (0 ≤ a ∧ a ≤ 10000) ∧ 0 ≤ b ∧ b ≤ 10000 := by
  rcases hm with ⟨_, _, _, h⟩ | ⟨⟨⟨q1, q2, q3⟩, ⟨q4, q5, q6⟩, _⟩, ⟨_, _, _, _, h⟩ | ⟨hne, rfl, rfl, _⟩⟩
  · cases h
  · cases h
  · have g1 : 0 < w1 + d2 := by omega
    have g2 : 0 < w2 + d1 := by omega
    have e1 : 10000 * w1 / (w1 + d2) * (w1 + d2) ≤ 10000 * w1 := Int.ediv_mul_le _ (by omega)
    have e2 : 0 ≤ 10000 * w1 / (w1 + d2) := Int.ediv_nonneg (by omega) (by omega)
    have e3 : 10000 * w1 / (w1 + d2) ≤ 10000 := by
      have : 10000 * w1 / (w1 + d2) < 10001 := by rw [Int.ediv_lt_iff_lt_mul g1]; omega
      omega
    have e4 : 10000 * w2 ≤ upQ (10000 * w2) (w2 + d1) * (w2 + d1) := by
      unfold upQ
      have := Int.lt_ediv_add_one_mul_self (10000 * w2 + (w2 + d1) - 1) g2
      rw [Int.add_mul] at this
      omega
    have e5 : 0 ≤ upQ (10000 * w2) (w2 + d1) := by unfold upQ; exact Int.ediv_nonneg (by omega) (by omega)
    have e6 : upQ (10000 * w2) (w2 + d1) ≤ 10000 := by
      have : upQ (10000 * w2) (w2 + d1) < 10001 := by unfold upQ; rw [Int.ediv_lt_iff_lt_mul g2]; omega
      omega
    generalize 10000 * w1 / (w1 + d2) = a at *
    generalize upQ (10000 * w2) (w2 + d1) = b at *
    have k1 : (10000 - a) * w1 ≤ (10000 - a) * water := Int.mul_le_mul_of_nonneg_left h2.1 (by omega)
    have k2 : a * dry ≤ a * d2 := Int.mul_le_mul_of_nonneg_left h1.2 e2
    have k3 : (10000 - b) * water ≤ (10000 - b) * w2 := Int.mul_le_mul_of_nonneg_left h2.2 (by omega)
    have k4 : b * d1 ≤ b * dry := Int.mul_le_mul_of_nonneg_left h1.1 e5
    rw [Int.sub_mul, Int.sub_mul] at k1 k3
    rw [Int.mul_add] at e1 e4
    refine ⟨⟨?_, ?_⟩, ⟨e2, e3⟩, e5, e6⟩ <;> rw [Int.mul_add] <;> omega
theorem phen_true {d1 d2 w1 w2 p1 p2 a b dry phen : Int} (hm : PhenIs d1 d2 w1 w2 p1 p2 a b 0) (h1 : d1 ≤ dry ∧ dry ≤ d2) (h2 : p1 ≤ phen ∧ phen ≤ p2) :
    0 < dry ∧ a ≤ 1000 * phen / dry ∧ (1000 * phen + dry - 1) / dry ≤ b := by
  rcases hm with ⟨_, _, _, h⟩ | ⟨⟨⟨q1, q2, q3⟩, _, ⟨q4, q5, q6⟩⟩, ⟨_, _, _, h⟩ | ⟨hne, rfl, rfl, _⟩⟩
  · cases h
  · cases h
  · have g1 : 0 < dry := by omega
    have e1 : 1000 * p1 / d2 * d2 ≤ 1000 * p1 := Int.ediv_mul_le _ (by omega)
    have e2 : 0 ≤ 1000 * p1 / d2 := Int.ediv_nonneg (by omega) (by omega)
    have e4 : 1000 * p2 ≤ upQ (1000 * p2) d1 * d1 := by
      unfold upQ
      have := Int.lt_ediv_add_one_mul_self (1000 * p2 + d1 - 1) (show 0 < d1 by omega)
      rw [Int.add_mul] at this
      omega
    have e5 : 0 ≤ upQ (1000 * p2) d1 := by unfold upQ; exact Int.ediv_nonneg (by omega) (by omega)
    generalize 1000 * p1 / d2 = a at *
    generalize upQ (1000 * p2) d1 = b at *
    have k1 : a * dry ≤ a * d2 := Int.mul_le_mul_of_nonneg_left h1.2 e2
    have k2 : b * d1 ≤ b * dry := Int.mul_le_mul_of_nonneg_left h1.1 e5
    refine ⟨g1, ?_, ?_⟩
    · rw [Int.le_ediv_iff_mul_le g1]; omega
    · have : (1000 * phen + dry - 1) / dry < b + 1 := by
        rw [Int.ediv_lt_iff_lt_mul g1, Int.add_mul]; omega
      omega

/-- steps that end with an error leave nothing; those that don't are valid and can be -/
theorem playG_err : ∀ (l : List StepV) (g : Gr) (i : Nat), (playG g l i).2.2 ≠ 0 → (playG g l i).1 = Gr.zero ∧ (playG g l i).2.1 ≤ i + l.length
  | [], g, i, h => absurd rfl h
  | s :: l, g, i, h => by
    unfold playG at h ⊢
    split
    · rename_i hc
      rw [if_pos hc] at h
      have := playG_err l _ _ h
      exact ⟨this.1, by simp only [List.length_cons]; omega⟩
    · exact ⟨rfl, by simp⟩
theorem playR_err {d1 d2 w1 w2 p1 p2 : Int} {l : List StepV} (h : (playR d1 d2 w1 w2 p1 p2 l).2.2 ≠ 0) : (playR d1 d2 w1 w2 p1 p2 l).1 = Gr.zero ∧ (playR d1 d2 w1 w2 p1 p2 l).2.1 ≤ l.length := by
  unfold playR at h ⊢
  split
  · rename_i h1
    rw [if_pos h1] at h
    split
    · exact ⟨rfl, Nat.zero_le _⟩
    · rename_i h2
      rw [if_neg h2] at h
      have := playG_err _ _ _ h
      exact ⟨this.1, by omega⟩
  · exact ⟨rfl, Nat.zero_le _⟩
theorem playG_ok_cons {g : Gr} {s : StepV} {l : List StepV} {i n : Nat} {G : Gr} (hg : g.Ok) (h : playG g (s :: l) i = (G, n, 0)) :
    StepOk s.k s.a s.b ∧ ∃ g', doG g s.k s.a s.b = some g' ∧ g'.Ok ∧ playG g' l (i + 1) = (G, n, 0) := by
  unfold playG at h
  split at h
  · rename_i hc
    have := nextG_ok hg hc
    exact ⟨this.2.1, _, this.2.2, this.1, h⟩
  · rename_i hc
    exact absurd (congrArg (fun r => r.2.2) h) hc
theorem playR_ok {d1 d2 w1 w2 p1 p2 : Int} {l : List StepV} {G : Gr} {n : Nat} (h : playR d1 d2 w1 w2 p1 p2 l = (G, n, 0)) : MaltOk d1 d2 w1 w2 p1 p2 ∧ playG ⟨d1, d2, w1, w2, p1, p2, 0, 0, 0, 0, 0, 0, 0, 0⟩ l 0 = (G, n, 0) ∧ l.length ≤ 256 := by
  unfold playR at h
  split at h
  · rename_i h1
    split at h
    · cases h
    · exact ⟨h1, h, by omega⟩
  · cases h
theorem playG_len : ∀ (l : List StepV) (g : Gr) (i n : Nat) (G : Gr), playG g l i = (G, n, 0) → n = i + l.length
  | [], g, i, n, G, h => by cases h; rfl
  | s :: l, g, i, n, G, h => by
    unfold playG at h
    split at h
    · have := playG_len l _ _ _ _ h
      simp only [List.length_cons]; omega
    · rename_i hc
      exact absurd (congrArg (fun r => r.2.2) h) hc
end Go.Proofs.Ytdadpfgcjffclaa
