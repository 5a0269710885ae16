import Derived.Test.YtlcccomdijdkaaaPWrm8
import Derived.Test.YtlcccomdijdkaaaPWrm9
import Derived.Test.YtlcccomdijdkaaaRows
import Derived.Test.YtlcccomdijdkaaaPWrm5
namespace Go.Proofs.Ytlcccomdijdkaaa
open Go.RowKit Go.Proofs.Try

theorem flow_mono : ∀ (l : List MPoint) (w w' : MWater), okW w → okW w' → Wle w w' → (flowS w' l).2 = 0 → (flowS w l).2 = 0 ∧ ∀ i, i < l.length → Wle ((flowS w l).1.getD i default) ((flowS w' l).1.getD i default)
  | [], _, _, _, _, _, _ => ⟨rfl, fun i hi => by simp at hi⟩
  | p :: r, w, w', hw, hw', h, hz => by
    by_cases hs' : stepS w' p = 0
    · have hs := step_mono hw hw' h hs'
      obtain ⟨hp, hb'⟩ := stepS_ok hw' hs'
      have m := bh_mono hw hp h
      rw [flowS_cons_ok hs'] at hz
      obtain ⟨g1, g2⟩ := flow_mono r (bh w p) (bh w' p) (stepS_ok hw hs).2 hb' m hz
      rw [flowS_cons_ok hs, flowS_cons_ok hs']
      refine ⟨g1, fun i hi => ?_⟩
      cases i with
      | zero => exact m
      | succ i => exact g2 i (by simpa using hi)
    · rw [flowS_cons_no hs'] at hz
      exact absurd hz hs'
theorem heat_up {c : MWater} {x : Int} (hc : okW c) (hx : 0 ≤ x) : Wle c (bh c (addP x)) := by
  obtain ⟨⟨f1, f2, f3⟩, _⟩ := hc
  rw [bh_add]
  have e1 := div_in hx (show 0 < c.flow.hi by omega)
  have e2 : 0 ≤ cl x c.flow.lo := Int.ediv_nonneg (by omega) (by omega)
  exact ⟨rfl, by simp only; omega, by simp only; omega⟩
theorem Wle.refl (w : MWater) : Wle w w := ⟨rfl, Int.le_refl _, Int.le_refl _⟩
theorem insert_mono {x : Int} (post : List MPoint) : ∀ (pre : List MPoint) (c : MWater), okW c → (flowS c (pre ++ addP x :: post)).2 = 0 →
    ∀ i, i < (pre ++ post).length → Wle ((flowS c (pre ++ post)).1.getD i default) ((flowS c (pre ++ addP x :: post)).1.getD (if pre.length ≤ i then i + 1 else i) default)
  | [], c, hc, hz, i, hi => by
    by_cases hs : stepS c (addP x) = 0
    · obtain ⟨hp, hb⟩ := stepS_ok hc hs
      have hx := okP_add.1 hp
      simp only [List.nil_append] at hz hi ⊢
      rw [flowS_cons_ok hs] at hz ⊢
      have := (flow_mono post c (bh c (addP x)) hc hb (heat_up hc hx.1) hz).2 i hi
      simpa using this
    · simp only [List.nil_append] at hz
      rw [flowS_cons_no hs] at hz
      exact absurd hz hs
  | p :: pre, c, hc, hz, i, hi => by
    simp only [List.cons_append] at hz hi ⊢
    by_cases hs : stepS c p = 0
    · rw [flowS_cons_ok hs] at hz ⊢
      rw [flowS_cons_ok hs]
      cases i with
      | zero => exact Wle.refl _
      | succ i =>
        have := insert_mono post pre (bh c p) (stepS_ok hc hs).2 hz i (by simpa using hi)
        by_cases h : pre.length ≤ i
        · rw [if_pos h] at this
          rw [if_pos (by simpa using h)]
          exact this
        · rw [if_neg h] at this
          rw [if_neg (by simpa using h)]
          exact this
    · rw [flowS_cons_no hs] at hz
      exact absurd hz hs
theorem drop_cons_get {α : Type} [Inhabited α] {l r : List α} {k : Nat} {a : α} (h : l.drop k = a :: r) : k < l.length ∧ l.getD k default = a ∧ l.drop (k + 1) = r := by
  have hlt : k < l.length := by
    refine Nat.lt_of_not_ge fun hge => ?_
    rw [List.drop_eq_nil_of_le hge] at h
    cases h
  rw [List.drop_eq_getElem_cons hlt] at h
  injection h with h1 h2
  exact ⟨hlt, by simp [List.getD, hlt, h1], h2⟩
/-- the marks are those of the waters -/
theorem marks_eq (limit : Int) (z : List MWater × Int × Int) (y : List Int × List Int × Int) (hl : z.1.length ≤ 64) (hy : y.1.length ≤ 64 ∧ y.2.1.length ≤ 64) : ∀ (n i p q : Nat), i ≤ z.1.length → z.1.length < i + n → p ≤ y.1.length → q ≤ y.2.1.length →
    y.1.drop p = (warmS limit i (z.1.drop i)).1 → y.2.1.drop q = (warmS limit i (z.1.drop i)).2 → wormtublaw05_StreamWarmer_l1 limit z y n ((p : Int), (q : Int), (i : Int)) = some (Lp.done ((y.1.length : Int), (y.2.1.length : Int)))
  | 0, i, p, q, hi, hn, hp, hq, h1, h2 => by omega
  | n + 1, i, p, q, hi, hn, hp, hq, h1, h2 => by
    rw [wormtublaw05_StreamWarmer_l1]
    simp only
    by_cases hlt : i < z.1.length
    · have hd : z.1.drop i = z.1.getD i default :: z.1.drop (i + 1) := by
        rw [List.drop_eq_getElem_cons hlt]
        simp [List.getD, hlt]
      rw [hd, warmS] at h1 h2
      rw [cond_t (by simpa using hlt), grd_pos ⟨by omega, by omega⟩]
      simp only [Int.toNat_natCast]
      simp only at h1 h2
      clear hd
      obtain ⟨w, hw⟩ : ∃ w, w = z.1.getD i default := ⟨_, rfl⟩
      simp only [← hw] at h1 h2 ⊢
      have e : ((i + 1 : Nat) : Int) = (i : Int) + 1 := by omega
      have ep : ((p + 1 : Nat) : Int) = (p : Int) + 1 := by omega
      have eq : ((q + 1 : Nat) : Int) = (q : Int) + 1 := by omega
      by_cases a1 : limit < w.warm.lo
      · rw [if_pos a1] at h1
        obtain ⟨p1, p2, p3⟩ := drop_cons_get h1
        rw [cond_t (by simpa using a1), grd_pos (fun _ => by omega), cond_f (by rw [p2]; simp; omega), grd_pos (by omega)]
        by_cases a2 : limit < w.warm.hi
        · rw [if_pos a2] at h2
          obtain ⟨q1, q2, q3⟩ := drop_cons_get h2
          rw [cond_t (by simpa using a2), grd_pos (fun _ => by omega), cond_f (by rw [q2]; simp; omega), grd_pos (by omega), grd_pos (by omega), ← e, ← ep, ← eq]
          exact marks_eq limit z y hl hy n (i + 1) (p + 1) (q + 1) (by omega) (by omega) (by omega) (by omega) p3 q3
        · rw [if_neg a2] at h2
          rw [cond_f (by simpa using a2), grd_pos (by omega), ← e, ← ep]
          exact marks_eq limit z y hl hy n (i + 1) (p + 1) q (by omega) (by omega) (by omega) (by omega) p3 h2
      · rw [if_neg a1] at h1
        rw [cond_f (by simpa using a1)]
        by_cases a2 : limit < w.warm.hi
        · rw [if_pos a2] at h2
          obtain ⟨q1, q2, q3⟩ := drop_cons_get h2
          rw [cond_t (by simpa using a2), grd_pos (fun _ => by omega), cond_f (by rw [q2]; simp; omega), grd_pos (by omega), grd_pos (by omega), ← e, ← eq]
          exact marks_eq limit z y hl hy n (i + 1) p (q + 1) (by omega) (by omega) (by omega) (by omega) h1 q3
        · rw [if_neg a2] at h2
          rw [cond_f (by simpa using a2), grd_pos (by omega), ← e]
          exact marks_eq limit z y hl hy n (i + 1) p q (by omega) (by omega) (by omega) (by omega) h1 h2
    · have : z.1.drop i = [] := List.drop_eq_nil_of_le (by omega)
      rw [this, warmS] at h1 h2
      have e1 := List.drop_eq_nil_iff.1 h1
      have e2 := List.drop_eq_nil_iff.1 h2
      rw [cond_f (by simpa using hlt), show p = y.1.length by omega, show q = y.2.1.length by omega]
/-- colder: no point is warmer -/
theorem colder_eq (z y : List MWater × Int × Int) (hl : z.1.length ≤ 64) (he : y.1.length = z.1.length) (h : ∀ i, i < z.1.length → Wle (y.1.getD i default) (z.1.getD i default)) : ∀ (n i : Nat), i ≤ z.1.length → z.1.length < i + n → wormtublaw05_StreamWarmer_l3 z y n (i : Int) = some (Lp.done ())
  | 0, i, h1, h2 => by omega
  | n + 1, i, h1, h2 => by
    rw [wormtublaw05_StreamWarmer_l3]
    by_cases hlt : i < z.1.length
    · obtain ⟨_, m1, m2⟩ := h i hlt
      rw [cond_t (by simpa using hlt), grd_pos ⟨⟨by omega, by omega⟩, ⟨by omega, by omega⟩, fun _ => ⟨by omega, by omega⟩, fun _ => ⟨by omega, by omega⟩⟩]
      simp only [Int.toNat_natCast]
      rw [cond_f (by rw [decide_eq_false (by omega), decide_eq_false (by omega)]; rfl), grd_pos (by omega)]
      exact colder_eq z y hl he h n (i + 1) (by omega) (by omega)
    · rw [cond_f (by simpa using hlt)]
theorem colder4 (z y : List MWater × Int × Int) : ∀ (n : Nat) (b : Int), wormtublaw05_StreamWarmer_l4 z y n b = wormtublaw05_StreamWarmer_l3 z y n b
  | 0, _ => rfl
  | n + 1, b => by
    rw [wormtublaw05_StreamWarmer_l4, wormtublaw05_StreamWarmer_l3]
    simp only [colder4 z y n]
/-- warmer: no point behind is colder, each flow as it was -/
theorem warmer_eq (l : List MPoint) (at' k : Int) (hk : at'.tmod ((l.length : Int) + 1) = k) (z y : List MWater × Int × Int) (hl : z.1.length ≤ 64) (he : y.1.length = z.1.length + 1) (h : ∀ i, i < z.1.length → Wle (z.1.getD i default) (y.1.getD (if k ≤ i then i + 1 else i) default)) :
    ∀ (n i : Nat), i ≤ z.1.length → z.1.length < i + n → wormtublaw05_StreamWarmer_l2 l at' z y n (i : Int) = some (Lp.done ())
  | 0, i, h1, h2 => by omega
  | n + 1, i, h1, h2 => by
    rw [wormtublaw05_StreamWarmer_l2]
    by_cases hlt : i < z.1.length
    · have hi := h i hlt
      have ih := warmer_eq l at' k hk z y hl he h n (i + 1) (by omega) (by omega)
      have e : ((i + 1 : Nat) : Int) = (i : Int) + 1 := by omega
      rw [cond_t (by simpa using hlt), hk]
      obtain ⟨j, hj, hj2⟩ : ∃ j : Nat, (bif decide (k ≤ (i : Int)) then grd (InI64 ((i : Int) + 1)) (some ((i : Int) + 1)) else some (i : Int)) = some (j : Int) ∧ j = if k ≤ (i : Int) then i + 1 else i := by
        by_cases hki : k ≤ (i : Int)
        · exact ⟨i + 1, by rw [cond_t (by simpa using hki), grd_pos (by omega)]; rfl, by rw [if_pos hki]⟩
        · exact ⟨i, by rw [cond_f (by simpa using hki)], by rw [if_neg hki]⟩
      rw [← hj2] at hi
      obtain ⟨m0, m1, m2⟩ := hi
      have hjl : j < y.1.length := by rw [hj2]; split <;> omega
      rw [bind_ok hj, grd_pos ⟨⟨by omega, by omega⟩, ⟨by omega, by omega⟩, fun _ => ⟨by omega, by omega⟩, fun _ => ⟨by omega, by omega⟩, fun _ => ⟨by omega, by omega⟩, fun _ => ⟨by omega, by omega⟩⟩]
      simp only [Int.toNat_natCast]
      rw [cond_f (by rw [decide_eq_false (by omega), decide_eq_false (by omega), ← m0]; simp), grd_pos (by omega), ← e]
      exact ih
    · rw [cond_f (by simpa using hlt)]
end Go.Proofs.Ytlcccomdijdkaaa
namespace Go.Proofs.Ytlcccomdijdkaaa
open Go.RowKit Go.Proofs.Try

theorem FlowS_fine {first : MWater} {l : List MPoint} (hw : okW first) (h : (FlowS first l).2.2 = 0) : l.length ≤ 64 ∧ (flowS first l).2 = 0 ∧ FlowS first l = ((flowS first l).1, ((flowS first l).1.length : Int), 0) := by
  unfold FlowS at h ⊢
  rw [if_neg (by simpa using hw)] at h ⊢
  by_cases h1 : 64 < l.length
  · rw [if_pos h1] at h; cases h
  · rw [if_neg h1] at h ⊢
    by_cases h2 : (flowS first l).2 = 0
    · rw [if_neg (by simpa using h2)]
      exact ⟨by omega, h2, rfl⟩
    · rw [if_pos h2] at h
      exact absurd h h2
theorem FlowS_some {first : MWater} {l : List MPoint} (hw : okW first) (hl : l.length ≤ 64) (h : (flowS first l).2 = 0) : FlowS first l = ((flowS first l).1, ((flowS first l).1.length : Int), 0) := by
  unfold FlowS
  rw [if_neg (by simpa using hw), if_neg (by omega), if_neg (by simpa using h)]
theorem WarmS_says (first : MWater) (l : List MPoint) (limit : Int) : ((WarmS first l limit).1 = [] ∧ (WarmS first l limit).2.1 = [] ∧ (WarmS first l limit).2.2 ≠ 0) ∨
    (okW first ∧ (FlowS first l).2.2 = 0 ∧ WarmS first l limit = ((warmS limit 0 (FlowS first l).1).1, (warmS limit 0 (FlowS first l).1).2, 0)) := by
  unfold WarmS
  by_cases h : okW first
  · rw [if_neg (by simpa using h)]
    by_cases h1 : 0 ≤ limit ∧ limit ≤ 100000
    · rw [if_neg (by simpa using h1)]
      by_cases h2 : (FlowS first l).2.2 = 0
      · rw [if_neg (by simpa using h2)]
        exact .inr ⟨h, h2, rfl⟩
      · rw [if_pos h2]
        exact .inl ⟨rfl, rfl, h2⟩
    · rw [if_pos h1]
      exact .inl ⟨rfl, rfl, by decide⟩
  · rw [if_pos h]
    exact .inl ⟨rfl, rfl, by decide⟩
/-- the colder half: both ways it ends well -/
theorem colder_ok {first : MWater} {l : List MPoint} {colder : Int} (hw : okW first) (hl : l.length ≤ 64) (hz : (flowS first l).2 = 0) (hc : 0 ≤ colder ∧ colder ≤ 65535) :
    ∃ z, stream_Flow (MWater.mk (MSpan.mk first.flow.lo first.flow.hi) (MSpan.mk (max 0 (first.warm.lo - colder)) (max 0 (first.warm.hi - colder)))) l = some z ∧ z.2.2 = 0 ∧ z.1.length = (flowS first l).1.length ∧
      ∀ i, i < (flowS first l).1.length → Wle (z.1.getD i default) ((flowS first l).1.getD i default) := by
  obtain ⟨⟨f1, f2, f3⟩, ⟨t1, t2, t3⟩⟩ := hw
  have hw : okW first := ⟨⟨f1, f2, f3⟩, ⟨t1, t2, t3⟩⟩
  have hw' : okW (MWater.mk (MSpan.mk first.flow.lo first.flow.hi) (MSpan.mk (max 0 (first.warm.lo - colder)) (max 0 (first.warm.hi - colder)))) := ⟨⟨f1, f2, f3⟩, ⟨by simp only; omega, by simp only; omega, by simp only; omega⟩⟩
  have hle : Wle (MWater.mk (MSpan.mk first.flow.lo first.flow.hi) (MSpan.mk (max 0 (first.warm.lo - colder)) (max 0 (first.warm.hi - colder)))) first := ⟨rfl, by simp only; omega, by simp only; omega⟩
  obtain ⟨g1, g2⟩ := flow_mono l _ first hw' hw hle hz
  have n1 := (flowS_len l _).2 g1
  have n2 := (flowS_len l first).2 hz
  refine ⟨_, Flow_eq _ _, ?_⟩
  rw [FlowS_some hw' hl g1]
  exact ⟨rfl, by simp only; omega, fun i hi => g2 i (by omega)⟩
theorem warmer_true (first : MWater) (l : List MPoint) (limit at' more colder : Int) (ha : 0 ≤ at' ∧ at' ≤ 255) (hm : 0 ≤ more ∧ more ≤ 4294967295) (hc : 0 ≤ colder ∧ colder ≤ 65535) : wormtublaw05_StreamWarmer FU first l limit at' more colder = some true := by
  have hF : (1001 : Nat) < FU := by decide
  unfold wormtublaw05_StreamWarmer
  by_cases h20 : 20 < l.length
  · rw [cond_t (by simp; omega), awake_true]
    rfl
  · rw [cond_f (by simp; omega)]
    refine Eq.trans (bind_ok (Flow_eq first l) _) ?_
    refine Eq.trans (bind_ok (Warm_eq (by omega) first l limit) _) ?_
    rcases WarmS_says first l limit with ⟨h1, h2, h3⟩ | ⟨hw, hz, hW⟩
    · have hb : ((WarmS first l limit).2.2 != 0) = true := by simpa using h3
      rw [cond_t (by simp only [hb, Bool.or_true]), h1, h2]
      simp only [hb, Bool.or_true, awake_true]
      rfl
    · obtain ⟨_, hz2, hFl⟩ := FlowS_fine hw hz
      have hlen := (flowS_len l first).2 hz2
      have wl := warmS_len limit (FlowS first l).1 0
      rw [hW]
      rw [cond_f (by simp [hz])]
      have hM : wormtublaw05_StreamWarmer_l1 limit (FlowS first l) ((warmS limit 0 (FlowS first l).1).1, (warmS limit 0 (FlowS first l).1).2, 0) FU (0, 0, 0) = _ :=
        marks_eq limit (FlowS first l) ((warmS limit 0 (FlowS first l).1).1, (warmS limit 0 (FlowS first l).1).2, 0) (by rw [hFl]; simp only; omega) (by rw [hFl] at wl ⊢; simp only at wl ⊢; omega) FU 0 0 0 (by omega) (by rw [hFl]; simp only; omega) (by omega) (by omega) (by rw [List.drop_zero, List.drop_zero]) (by rw [List.drop_zero, List.drop_zero])
      rw [bind_ok hM]
      simp only [Lp.go]
      unfold wormtublaw05_StreamWarmer_k4
      rw [cond_f (by simp)]
      have hk0 := Int.emod_nonneg at' (b := (l.length : Int) + 1) (by omega)
      have hk1 := Int.emod_lt_of_pos at' (b := (l.length : Int) + 1) (by omega)
      have hk : at'.tmod ((l.length : Int) + 1) = at' % ((l.length : Int) + 1) := tmod_eq ha.1
      obtain ⟨k, hkk⟩ : ∃ k, k = at' % ((l.length : Int) + 1) := ⟨_, rfl⟩
      rw [← hkk] at hk0 hk1 hk
      rw [hk]
      have e : (((([] : List MPoint) ++ ((l.drop 0).take ((Int.toNat k) - 0))) ++ [(MPoint.mk 2 (MSpan.mk 0 0) (MSpan.mk 0 0) (MSpan.mk more more) (MSpan.mk 0 0))]) ++ ((l.drop (Int.toNat k)).take (l.length - (Int.toNat k)))) = l.take k.toNat ++ addP more :: l.drop k.toNat := by
        rw [List.take_of_length_le (l := l.drop (Int.toNat k)) (by simp)]
        simp [addP]
      rw [e, grd_pos ⟨by omega, by omega, by omega⟩, grd_pos ⟨⟨by omega, by omega, by omega⟩, by simp; omega⟩, grd_pos ⟨by omega, by omega, by simp; omega⟩, grd_pos ⟨⟨by omega, by omega, by omega⟩, by simp; omega⟩]
      obtain ⟨z, ez, z1, z2, z3⟩ := colder_ok hw (by omega) hz2 hc
      obtain ⟨⟨f1, f2, f3⟩, ⟨t1, t2, t3⟩⟩ := hw
      have hw : okW first := ⟨⟨f1, f2, f3⟩, ⟨t1, t2, t3⟩⟩
      refine Eq.trans (bind_ok (Flow_eq first _) _) ?_
      have hil : (l.take k.toNat ++ addP more :: l.drop k.toNat).length = l.length + 1 := by simp; omega
      have hzl : z.1.length = (FlowS first l).1.length := by rw [hFl]; exact z2
      have hzw : ∀ i, i < (FlowS first l).1.length → Wle (z.1.getD i default) ((FlowS first l).1.getD i default) := by rw [hFl]; exact z3
      have hC : wormtublaw05_StreamWarmer_l3 (FlowS first l) z FU 0 = _ := colder_eq (FlowS first l) z (by rw [hFl]; simp only; omega) hzl hzw FU 0 (by omega) (by rw [hFl]; simp only; omega)
      by_cases hy : (FlowS first (l.take k.toNat ++ addP more :: l.drop k.toNat)).2.2 = 0
      · obtain ⟨_, hy2, hYl⟩ := FlowS_fine hw hy
        have hylen := (flowS_len _ first).2 hy2
        have hyl : (FlowS first (l.take k.toNat ++ addP more :: l.drop k.toNat)).1.length = (FlowS first l).1.length + 1 := by rw [hYl, hFl]; simp only; omega
        have hI := insert_mono (x := more) (l.drop k.toNat) (l.take k.toNat) first hw hy2
        rw [List.take_append_drop, show (l.take k.toNat).length = k.toNat by simp; omega] at hI
        have hB : wormtublaw05_StreamWarmer_l2 l at' (FlowS first l) (FlowS first (l.take k.toNat ++ addP more :: l.drop k.toNat)) FU 0 = _ := warmer_eq l at' k hk (FlowS first l) (FlowS first (l.take k.toNat ++ addP more :: l.drop k.toNat)) (by rw [hFl]; simp only; omega) hyl (by
          intro i hi
          rw [hFl] at hi ⊢
          rw [hYl]
          have := hI i (by simp only at hi; omega)
          simp only
          by_cases hki : k ≤ (i : Int)
          · rw [if_pos (by omega)] at this
            rw [if_pos hki]
            exact this
          · rw [if_neg (by omega)] at this
            rw [if_neg hki]
            exact this) FU 0 (by omega) (by rw [hFl]; simp only; omega)
        rw [cond_t (by simp [hy]), grd_pos (by rw [hFl]; simp only; omega), cond_f (by simp [hyl]), bind_ok hB]
        simp only [Lp.go]
        unfold wormtublaw05_StreamWarmer_k2
        rw [grd_pos ⟨by omega, by omega⟩, grd_pos ⟨by omega, by omega⟩, bind_ok ez, cond_f (by simp [z1, hzl]), bind_ok hC]
        simp only [Lp.go, wormtublaw05_StreamWarmer_k1, awake_true, Option.bind_some]
      · rw [cond_f (by simp [hy])]
        rw [grd_pos ⟨by omega, by omega⟩, grd_pos ⟨by omega, by omega⟩, bind_ok ez, cond_f (by simp [z1, hzl]), colder4, bind_ok hC]
        simp only [Lp.go, wormtublaw05_StreamWarmer_k3, awake_true, Option.bind_some]
end Go.Proofs.Ytlcccomdijdkaaa
namespace Go.Proofs.Ytlcccomdijdkaaa.streamWarmer
open Go.ChangeShapes Go.WideShapes Go.ChangeAt Go.RowKit Go.Deep
theorem own : ownKnob Try.prog.godebug = none := by kernel_rfl
theorem laidOut : laidOutB Try.prog = true := by kernel_rfl
set_option maxHeartbeats 1000000 in
set_option maxRecDepth 100000 in
theorem lifted (os : Os) (started : os.Started) (H : Type) (enc : TypeId × Value → H) :
    ReturnsInHanded {} Try.checked os 8 .any (Rows.streamWarmerSpec.pre6 enc Try.prog Try.f8 Rows.streamWarmerRow.domain false) (Rows.streamWarmerSpec.post enc Try.prog Try.f8 false true false false) := by
  refine returnsInHanded_of_change_sized (C := Try.checked) own started (by kernel_rfl) Try.func8
    (ChangeSpec.witness6 (enc := enc) (C := Try.checked) false ⟨#[], #[.agg #[.int .i64 0, .int .i64 0, .int .i64 0, .int .i64 0], .slice none 0 0, .int .i64 0, .int .u8 0, .int .u32 0, .int .u16 0], []⟩ 8 (by kernel_rfl) (by kernel_rfl) (by kernel_rfl) (by kernel_rfl)) ?_
  intro W base args ds gs before hval0 hW _ hsz0 _
  have hsz : (DataW.weightsEach Try.prog (Try.f8.params.toList ++ Rows.streamWarmerSpec.plain.varTypes Try.prog) (ds ++ gs)).all (· ≤ reachBytes) = true := hsz0
  have hval : ∀ (j : Nat) t v, Try.f8.params[j]? = some t → args[j]? = some v → Value.okWide Try.prog W .any base t v := hval0
  have hW' := hW
  obtain ⟨p, q, hA0, hV, rfl, hfz, hnd⟩ := hW
  have hA : DataW.TrodAll enc Try.prog W 0 (fun _ => true) true Try.f8.params.toList args.toList ds p := hA0
  rw [Try.params8] at hA hval hsz
  obtain ⟨v0, vs0, d0, ds0, pp0, qq0, hargs, rfl, rfl, hh0, rr0⟩ := trodAll_cons hA
  obtain ⟨v1, vs1, d1, ds1, pp1, qq1, rfl, rfl, rfl, hh1, rr1⟩ := trodAll_cons rr0
  obtain ⟨v2, vs2, d2, ds2, pp2, qq2, rfl, rfl, rfl, hh2, rr2⟩ := trodAll_cons rr1
  obtain ⟨v3, vs3, d3, ds3, pp3, qq3, rfl, rfl, rfl, hh3, rr3⟩ := trodAll_cons rr2
  obtain ⟨v4, vs4, d4, ds4, pp4, qq4, rfl, rfl, rfl, hh4, rr4⟩ := trodAll_cons rr3
  obtain ⟨v5, vs5, d5, ds5, pp5, qq5, rfl, rfl, rfl, hh5, rr5⟩ := trodAll_cons rr4
  obtain ⟨rfl, rfl, rfl⟩ := trodAll_nil rr5
  obtain rfl : args = #[v0, v1, v2, v3, v4, v5] := by cases args; simp_all
  obtain ⟨rfl, rfl⟩ := trodVars_none hV
  have kk0 := hh0
  have lt0 : ∀ x ∈ pp0, x.block < W.heap.size := by obtain ⟨m, hm⟩ := kk0; exact DataW.trod_lt m _ _ _ hm
  obtain ⟨wf0, wf1, wf2, wf3, rfl, wfb0, wfb1, wfb2, wfb3⟩ := open_water (hval 0 25 v0 rfl rfl)
  have kk1 := hh1
  have lt1 : ∀ x ∈ pp1, x.block < W.heap.size := by obtain ⟨m, hm⟩ := kk1; exact DataW.trod_lt m _ _ _ hm
  obtain ⟨ll_A, ll, ll_c, rfl, ll_h, ll_s, ll_len, ll_bd⟩ := open_points (hval 1 26 v1 rfl rfl) kk1 (fun n hn => of_decide_eq_true (List.all_eq_true.1 hsz n (DataW.weights_mem_each (j := 1) (t := 26) rfl rfl n hn)))
  have kk2 := hh2
  have lt2 : ∀ x ∈ pp2, x.block < W.heap.size := by obtain ⟨m, hm⟩ := kk2; exact DataW.trod_lt m _ _ _ hm
  obtain ⟨xa, rfl, xab1, xab2⟩ := okInt Try.underlying3 (hval 2 3 v2 rfl rfl)
  have kk3 := hh3
  have lt3 : ∀ x ∈ pp3, x.block < W.heap.size := by obtain ⟨m, hm⟩ := kk3; exact DataW.trod_lt m _ _ _ hm
  obtain ⟨xb, rfl, xbb1, xbb2⟩ := okInt Try.underlying5 (hval 3 5 v3 rfl rfl)
  have kk4 := hh4
  have lt4 : ∀ x ∈ pp4, x.block < W.heap.size := by obtain ⟨m, hm⟩ := kk4; exact DataW.trod_lt m _ _ _ hm
  obtain ⟨xc, rfl, xcb1, xcb2⟩ := okInt Try.underlying48 (hval 4 48 v4 rfl rfl)
  have kk5 := hh5
  have lt5 : ∀ x ∈ pp5, x.block < W.heap.size := by obtain ⟨m, hm⟩ := kk5; exact DataW.trod_lt m _ _ _ hm
  obtain ⟨xd, rfl, xdb1, xdb2⟩ := okInt Try.underlying59 (hval 5 59 v5 rfl rfl)
  clear hA0 hval0 hsz0
  refine (Go.Proofs.Ytlcccomdijdkaaa.wormtublaw05_StreamWarmer_ok FU (MWater.mk (MSpan.mk wf0 wf1) (MSpan.mk wf2 wf3)) ll xa xb xc xd W ll_A ll_c ll_h ll_s true (warmer_true _ _ _ _ _ _ ⟨xbb1, xbb2⟩ ⟨xcb1, xcb2⟩ ⟨xdb1, xdb2⟩)).mono fun e W' ⟨he, bel⟩ => ?_
  subst he
  exact ⟨_, rfl, _, _, _, [], _, [], hW', trodAll_mk1 (shut_bool Try.underlying4 _), (trodAll_cons_mk (Below.trod laidOut (by kernel_rfl) (of_decide_eq_true (by kernel_rfl)) kk0 bel lt0) (trodAll_cons_mk (Below.trod laidOut (by kernel_rfl) (of_decide_eq_true (by kernel_rfl)) kk1 bel lt1) (trodAll_cons_mk (Below.trod laidOut (by kernel_rfl) (of_decide_eq_true (by kernel_rfl)) kk2 bel lt2) (trodAll_cons_mk (Below.trod laidOut (by kernel_rfl) (of_decide_eq_true (by kernel_rfl)) kk3 bel lt3) (trodAll_cons_mk (Below.trod laidOut (by kernel_rfl) (of_decide_eq_true (by kernel_rfl)) kk4 bel lt4) (trodAll_cons_mk (Below.trod laidOut (by kernel_rfl) (of_decide_eq_true (by kernel_rfl)) kk5 bel lt5) trodAll_mk0)))))), rfl, bel.frame _, fun h => by cases h⟩
theorem over : Rows.streamWarmerRow.holds Try.pinned (OpenSpec.ofChange Rows.streamWarmerSpec) :=
  OpenClaim.holds_of_wide 8 Try.f8 rfl rfl rfl rfl rfl rfl rfl ⟨rfl, rfl, rfl, rfl, rfl⟩ rfl rfl rfl rfl rfl (by kernel_rfl) Try.func8 (by kernel_rfl)
    (of_decide_eq_true (by kernel_rfl)) (by unfold Func.isWrapper; first | (rw [if_pos (by decide +kernel)]; kernel_rfl) | (rw [if_neg (by decide +kernel)]; exact ⟨rfl, rfl⟩))
    (fun os started H enc _ => lifted os started H enc)
/-- the given statement -/
theorem proved : Rows.StreamWarmerSaid := over
end Go.Proofs.Ytlcccomdijdkaaa.streamWarmer
