/- A region that draws its order, with one new block beside what is read and called; then a forced tail. -/
import Derived.Test.YtjcadgklamhohaaLate
namespace Go.Proofs.Ytjcadgklamhohaa
open Go.RowKit Go.Sort

section
variable {P : Program} {ops : Array Oper} {md : Region.Mode} {C : World → Prop}
/-- the new block comes up at n and is not looked at in the head -/
def wpAnyH (P : Program) (md : Region.Mode) (ops : Array Oper) (C : World → Prop) (n : Nat) (L : Array Bool → Act → Prop) : Nat → Array Bool → Act → Prop
  | 0, listed, a => L listed a
  | f + 1, listed, a =>
    Region.ready md ops listed ≠ [] ∧ ∀ i ∈ Region.ready md ops listed, i < n + 1 ∧ (i < n → cOp P ops C i (wpAnyH P md ops C n L f (listed.setIfInBounds i true)) a) ∧ (n ≤ i → wpAnyH P md ops C n L f (listed.setIfInBounds i true) a)

structure One (P : Program) (ops : Array Oper) (C : World → Prop) (n B : Nat) (d1 : Nat) (t1 : TypeId) (z1 : Array Value) : Prop where
  o1 : ∃ o, ops[n]? = some o ∧ o.dst = some d1 ∧ o.guard = none ∧ (∀ cs b, o.op ≠ .select cs b) ∧ ∀ (a : Act) w, (execOp a.eval o).run P w = .ok (.value (.pointer (some ⟨w.heap.size, 0, none⟩))) (w.alloc (.cells z1 t1))
  far : ∀ j oj, j < n → ops[j]? = some oj → d1 ∉ oj.looksAt ops ∧ oj.dst ≠ some d1 ∧ (∀ cs b, oj.op ≠ .select cs b)
  cls : ∀ w o, C w → C (w.alloc o)
  base : ∀ w, C w → B ≤ w.heap.size

variable {n B d1 : Nat} {t1 : TypeId} {z1 : Array Value}
theorem wpAny_of_H {g : Nat} {L : Array Bool → Act → Prop} {Q' : Exit → Act → World → Prop} (T : One P ops C n B d1 t1 z1)
    (hLd : ∀ listed a, L listed a → listed.getD n true = true)
    (hL : ∀ listed a, L listed a → ∀ w g1, C w → Fresh B t1 z1 w (some g1) → wpAny P md ops Q' g listed (putO a d1 (some g1)) w) :
    ∀ (f : Nat) (listed : Array Bool) (a : Act), wpAnyH P md ops C n L f listed a → ∀ (w : World) (o1 : Option Nat), C w → Fresh B t1 z1 w o1 →
      (listed.getD n true = o1.isSome) → wpAny P md ops Q' (f + g) listed (putO a d1 o1) w
  | 0, listed, a, h, w, o1, hw, hf1, hl1 => by
    rw [Nat.zero_add]
    have e1 := hLd _ _ h
    rw [hl1] at e1
    obtain ⟨g1, rfl⟩ := Option.isSome_iff_exists.1 e1
    exact hL _ _ h w g1 hw hf1
  | f + 1, listed, a, h, w, o1, hw, hf1, hl1 => by
    rw [show f + 1 + g = (f + g) + 1 by omega]
    refine ⟨fun h0 => absurd h0 h.1, fun i hi => ?_⟩
    obtain ⟨hin, hq, ha⟩ := h.2 i hi
    have hun := (mem_ready.1 hi).1
    rcases Nat.lt_or_ge i n with hlt | hge
    · have hc := hq hlt
      obtain ⟨_, oj, hoj, _⟩ := mem_ready.1 hi
      obtain ⟨k1, k3, k5⟩ := T.far i oj hlt hoj
      have hex : execOp (putO a d1 o1).eval oj = execOp a.eval oj := execOp_putO k5 k1
      have hwt : Region.wanted oj (yielded ops (putO a d1 o1).tmps) = Region.wanted oj (yielded ops a.tmps) := wanted_putO k1
      have hput : ∀ v, (putO a d1 o1).put oj.dst v = putO (a.put oj.dst v) d1 o1 := fun v => by rw [putO_put v k3]
      have hn1 : (listed.setIfInBounds i true).getD n true = o1.isSome := by rw [getD_set_ne true (by omega)]; exact hl1
      unfold wpOp
      unfold cOp at hc
      simp only [hoj] at hc ⊢
      rw [hwt]
      split
      · rename_i hwd
        simp only [hwd, if_true] at hc
        obtain ⟨v, hv, hK⟩ := hc
        have hv := hv w hw
        refine .inl ?_
        unfold Oper.wp
        unfold Oper.calmAt at hv
        rw [hex]
        generalize (execOp a.eval oj).run P w = r at *
        cases r with
        | ok x w' =>
          cases x <;> simp only [Oper.calmUpon] at hv <;> simp only [Oper.upon]
          case value u =>
            obtain ⟨e1, e2⟩ := hv
            rw [e1, e2, hput]
            exact wpAny_of_H T hLd hL f _ _ hK w o1 hw hf1 hn1
          case skip =>
            obtain ⟨e1, e2⟩ := hv
            rw [e1, ← e2, hput]
            exact wpAny_of_H T hLd hL f _ _ hK w o1 hw hf1 hn1
          case enter fn args =>
            obtain ⟨e1, hcl⟩ := hv
            rw [e1]
            refine hcl.mono fun e w'' ⟨he, hw'', hb⟩ => ?_
            subst he
            simp only []
            rw [hput]
            exact wpAny_of_H T hLd hL f _ _ hK w'' o1 hw'' (hf1.below hb) hn1
        | halt x w' => simp only [Oper.calmUpon] at hv
      · rename_i hwd
        simp only [hwd] at hc
        rw [hput]
        exact wpAny_of_H T hLd hL f _ _ hc w o1 hw hf1 hn1
    · have hK := ha hge
      have hlt0 : i < listed.size := by
        rcases Nat.lt_or_ge i listed.size with h' | h'
        · exact h'
        · simp [Array.getElem?_eq_none h'] at hun
      have hin' : n = i := by omega
      subst hin'
      obtain ⟨o, ho, hd, hg, hs, hrun⟩ := T.o1
      have hnone : o1 = none := by
        rw [hun] at hl1
        cases o1 with
        | none => rfl
        | some _ => cases hl1
      subst hnone
      unfold wpOp
      simp only [ho]
      rw [if_pos (by simp [Region.wanted, hg])]
      refine .inl ?_
      unfold Oper.wp
      rw [hrun, Oper.upon_value, hd]
      have e : (putO a d1 none).put (some d1) (.pointer (some ⟨w.heap.size, 0, none⟩)) = putO a d1 (some w.heap.size) := rfl
      rw [e]
      exact wpAny_of_H T hLd hL f _ _ hK _ _ (T.cls _ _ hw) ⟨Blk.new _ _ _, T.base _ hw⟩ (by simp [hlt0])

theorem wpAnyH_firstQ {i : Nat} {oi : Oper} {v : Value} {L : Array Bool → Act → Prop} (hi : ops[i]? = some oi) (hsel : ∀ (j : Nat) (o : Oper) cs b, ops[j]? = some o → o.op ≠ .select cs b)
    (hs : Region.sinkB md ops (n + 1) = true) (hc : Region.chainB md ops (n + 1) = true) (hn : n + 1 < ops.size) (hin : i < n)
    (hdone : ∀ listed a, L listed a → ∀ j ∈ Region.ready md ops listed, n + 1 ≤ j) :
    ∀ (f : Nat) (listed : Array Bool) (a : Act), HeadInv md ops (n + 1) listed →
      (∀ j oj, ops[j]? = some oj → j ≠ i → listed.getD j true = false → (∀ e ∈ oj.after, Region.binds md e = true → e.on ≠ i) → oi.apart ops oj = true) →
      i ∈ Region.ready md ops listed → YieldsC P ops C oi v a →
      wpAnyH P md ops C n L f (listed.setIfInBounds i true) (a.put oi.dst v) → wpAnyH P md ops C n L (f + 1) listed a := by
  intro f
  induction f with
  | zero =>
    intro listed a inv _ hr hy H
    have hun := (mem_ready.1 hr).1
    refine ⟨fun h => (by rw [h] at hr; cases hr), fun j hj => ?_⟩
    have hjn : j < n + 1 := by
      rcases Nat.lt_or_ge j (n + 1) with h | h
      · exact h
      · exact absurd hj (tail_waits hs hc hn inv _ i rfl (by omega) hun j h)
    by_cases hji : j = i
    · subst hji; exact ⟨hjn, fun _ => hy.cOp hi H, fun h => by omega⟩
    · have := hdone _ _ H j (ready_mono hj hji)
      omega
  | succ f ih =>
    intro listed a inv hfree hr hy H
    have hun := (mem_ready.1 hr).1
    refine ⟨fun h => (by rw [h] at hr; cases hr), fun j hj => ?_⟩
    have hjn : j < n + 1 := by
      rcases Nat.lt_or_ge j (n + 1) with h | h
      · exact h
      · exact absurd hj (tail_waits hs hc hn inv _ i rfl (by omega) hun j h)
    by_cases hji : j = i
    · subst hji; exact ⟨hjn, fun _ => hy.cOp hi H, fun h => by omega⟩
    · obtain ⟨hjun, oj, hoj, hall⟩ := mem_ready.1 hj
      have hnot : ∀ e ∈ oj.after, Region.binds md e = true → e.on ≠ i := fun e he hb heq => by
        have h1 := hall e he hb
        rw [heq, getD_both hun] at h1
        cases h1
      have hfree' : ∀ k ok, ops[k]? = some ok → k ≠ i → (listed.setIfInBounds j true).getD k true = false →
          (∀ e ∈ ok.after, Region.binds md e = true → e.on ≠ i) → oi.apart ops ok = true := fun k ok hk hki hun hno => by
        refine hfree k ok hk hki ?_ hno
        by_cases hjk : j = k
        · subst hjk; exact hjun
        · rw [getD_set_ne true hjk] at hun; exact hun
      obtain ⟨_, hq, ha⟩ := H.2 j (ready_mono hj hji)
      refine ⟨hjn, fun hjl => ?_, fun hjg => ?_⟩
      · have h2 := cOp_put hoj (hfree j oj hoj hji hjun hnot) (fun cs b => hsel i oi cs b hi) (fun cs b => hsel j oj cs b hoj) hy (hq hjl)
        refine cOp_mono (fun a' h3 => ih (listed.setIfInBounds j true) a' (inv.set hj hjn) hfree' (ready_mono hr (Ne.symm hji)) h3.1 ?_) h2
        rw [Array.setIfInBounds_comm _ _ hji]
        exact h3.2
      · refine ih (listed.setIfInBounds j true) a (inv.set hj hjn) hfree' (ready_mono hr (Ne.symm hji)) hy ?_
        rw [Array.setIfInBounds_comm _ _ hji]
        exact ha hjg

theorem wpAnyH_firstA {i : Nat} {L : Array Bool → Act → Prop} (hs : Region.sinkB md ops (n + 1) = true) (hc : Region.chainB md ops (n + 1) = true) (hn : n + 1 < ops.size) (hin : i < n + 1) (hge : n ≤ i)
    (hdone : ∀ listed a, L listed a → ∀ j ∈ Region.ready md ops listed, n + 1 ≤ j) :
    ∀ (f : Nat) (listed : Array Bool) (a : Act), HeadInv md ops (n + 1) listed → i ∈ Region.ready md ops listed →
      wpAnyH P md ops C n L f (listed.setIfInBounds i true) a → wpAnyH P md ops C n L (f + 1) listed a := by
  intro f
  induction f with
  | zero =>
    intro listed a inv hr H
    have hun := (mem_ready.1 hr).1
    refine ⟨fun h => (by rw [h] at hr; cases hr), fun j hj => ?_⟩
    have hjn : j < n + 1 := by
      rcases Nat.lt_or_ge j (n + 1) with h | h
      · exact h
      · exact absurd hj (tail_waits hs hc hn inv _ i rfl hin hun j h)
    by_cases hji : j = i
    · subst hji; exact ⟨hjn, fun h => by omega, fun _ => H⟩
    · have := hdone _ _ H j (ready_mono hj hji)
      omega
  | succ f ih =>
    intro listed a inv hr H
    have hun := (mem_ready.1 hr).1
    refine ⟨fun h => (by rw [h] at hr; cases hr), fun j hj => ?_⟩
    have hjn : j < n + 1 := by
      rcases Nat.lt_or_ge j (n + 1) with h | h
      · exact h
      · exact absurd hj (tail_waits hs hc hn inv _ i rfl hin hun j h)
    by_cases hji : j = i
    · subst hji; exact ⟨hjn, fun h => by omega, fun _ => H⟩
    · obtain ⟨_, hq, ha⟩ := H.2 j (ready_mono hj hji)
      refine ⟨hjn, fun hjl => ?_, fun hjg => ?_⟩
      · refine cOp_mono (fun a' h3 => ih (listed.setIfInBounds j true) a' (inv.set hj hjn) (ready_mono hr (Ne.symm hji)) ?_) (hq hjl)
        rw [Array.setIfInBounds_comm _ _ hji]
        exact h3
      · refine ih (listed.setIfInBounds j true) a (inv.set hj hjn) (ready_mono hr (Ne.symm hji)) ?_
        rw [Array.setIfInBounds_comm _ _ hji]
        exact ha hjg

theorem wpAnyH_lex {g : Nat} {Lq : Act → Prop} (hsel : Region.noSelect ops = true) (hs : Region.sinkB md ops (n + 1) = true) (hc : Region.chainB md ops (n + 1) = true) (hn : n + 1 < ops.size) :
    ∀ (l : List Oper) (k : Nat) (listed : Array Bool) (a : Act), (∀ j, j < l.length → l[j]? = ops[k + j]?) → k + l.length = n → HeadInv md ops (n + 1) listed →
    Region.lexHead md ops g (l.length + 1) k listed = true → wpCalm P ops C Lq l a →
    wpAnyH P md ops C n (fun listed' a' => (Region.seqB md ops g (n + 1) listed' = true ∧ listed'.getD n true = true) ∧ Lq a') (l.length + 1) listed a
  | [], k, listed, a, _, hk, inv, hB, h => by
    have : k = n := by simpa using hk
    subst this
    simp only [List.length_nil, Region.lexHead, Bool.and_eq_true] at hB
    obtain ⟨⟨hr, _⟩, hB'⟩ := hB
    have hr' : k ∈ Region.ready md ops listed := by simpa using hr
    have hd : ∀ listed' a', ((Region.seqB md ops g (k + 1) listed' = true ∧ listed'.getD k true = true) ∧ Lq a') → ∀ j ∈ Region.ready md ops listed', k + 1 ≤ j := fun listed' a' hL => seqB_ready' hL.1.1
    have hz : listed.size = ops.size := inv.size
    refine wpAnyH_firstA hs hc hn (by omega) (Nat.le_refl _) hd 0 listed a inv hr' ?_
    refine ⟨⟨hB', ?_⟩, h⟩
    simp
  | o :: l, k, listed, a, hl, hk, inv, hB, h => by
    have h0 : ops[k]? = some o := by simpa using (hl 0 (by simp)).symm
    simp only [List.length_cons] at hB hk
    rw [Region.lexHead] at hB
    simp only [Bool.and_eq_true] at hB
    obtain ⟨⟨hr, hf⟩, hB'⟩ := hB
    have hkn : k < n := by omega
    have hr' : k ∈ Region.ready md ops listed := by simpa using hr
    have hst : cOp P ops C k (wpCalm P ops C Lq l) a := by unfold cOp; simp only [h0]; exact h
    obtain ⟨v, hy, hK⟩ := yieldsC_of_cOp h0 hst
    exact wpAnyH_firstQ h0 (Region.noSelect_spec hsel) hs hc hn hkn (fun listed' a' hL => seqB_ready' hL.1.1) (l.length + 1) listed a inv (Region.free_spec h0 hf) hr' hy
      (wpAnyH_lex hsel hs hc hn l (k + 1) _ _ (fun j hj => by have := hl (j + 1) (by simp; omega); simpa [Nat.add_assoc, Nat.add_comm 1 j] using this) (by omega) (inv.set hr' (by omega)) hB' hK)

theorem wp_region_one {id : Nat} {Q : Exit → Act → World → Prop} {a : Act} {w : World} {l : List Oper} (n B d1 : Nat) (t1 : TypeId) (z1 : Array Value) (hm : P.follows .mixedOrders = true) (hB : Region.lexTailB .any l.toArray (n + 1) = true)
    (T : One P l.toArray C n B d1 t1 z1) (hC : C { w with drawn := w.drawn + 1 })
    (h : wpCalm P l.toArray C (fun a' => ∀ w' g1, C w' → (Blk w' g1 t1 z1 ∧ B ≤ g1) → wpList P l.toArray Q (l.drop (n + 1)) (a'.put (some d1) (.pointer (some ⟨g1, 0, none⟩))) w') (l.take n) a) :
    (Code.region id l.toArray true).wp P Q a w := by
  simp only [Region.lexTailB, Bool.and_eq_true, decide_eq_true_eq] at hB
  obtain ⟨⟨⟨⟨hsel, hn⟩, hs⟩, hc⟩, hlex⟩ := hB
  have hn' : n + 1 < l.length := by simpa using hn
  have htl : (l.take n).length = n := by simp; omega
  have hdl : (l.drop (n + 1)).length = l.toArray.size - (n + 1) := by simp
  have inv0 : HeadInv .any l.toArray (n + 1) (Array.replicate l.toArray.size false) :=
    ⟨by simp, fun j oj _ hl => (by rw [getD_replicate_false] at hl; cases hl), fun t _ ht => getD_in (by simpa using ht) (getD_replicate_false _ _)⟩
  have hl0 : ∀ m, m < l.toArray.size → (Array.replicate l.toArray.size false).getD m true = false := fun m hm => getD_in (by simpa using hm) (getD_replicate_false _ _)
  have H := wpAnyH_lex (md := .any) (g := l.toArray.size - (n + 1)) hsel hs hc hn (l.take n) 0 _ a (fun j hj => by
    have hj' : j < n := by rw [htl] at hj; exact hj
    simp [hj']) (by simpa using htl) inv0 (by rw [htl]; exact hlex) h
  refine wp_region_any hm ?_
  have := wpAny_of_H (Q' := Q) (g := l.toArray.size - (n + 1)) T (fun listed a' hL => hL.1.2) (fun listed a' hL w' g1 hw' f1 => by
    have := wpAny_of_seq (md := .any) (Q' := Q) (l.drop (n + 1)) (n + 1) listed _ w' (fun j => by simp [List.getElem?_drop]) (by rw [hdl]; exact hL.1.1) (hL.2 w' g1 hw' f1)
    rwa [hdl] at this) _ _ _ H { w with drawn := w.drawn + 1 } none hC trivial (hl0 n (by omega))
  rw [htl, show n + 1 + (l.toArray.size - (n + 1)) = l.toArray.size by omega] at this
  exact this
end
def farB1 (ops : Array Oper) (n d1 : Nat) : Bool := (List.range n).all fun j => match ops[j]? with
  | some oj => !(oj.looksAt ops).contains d1 && oj.dst != some d1
  | none => true
theorem farB1_spec {ops : Array Oper} {n d1 : Nat} (h : farB1 ops n d1 = true) (hs : Region.noSelect ops = true) : ∀ j oj, j < n → ops[j]? = some oj → d1 ∉ oj.looksAt ops ∧ oj.dst ≠ some d1 ∧ (∀ cs b, oj.op ≠ .select cs b) := by
  intro j oj hj hoj
  have h1 := List.all_eq_true.1 h j (List.mem_range.2 hj)
  simp only [hoj, Bool.and_eq_true, Bool.not_eq_true', bne_iff_ne] at h1
  exact ⟨by simpa using h1.1, h1.2, fun cs b => Region.noSelect_spec hs j oj cs b hoj⟩

theorem wp_region_one_below {P : Program} {id : Nat} {Q : Exit → Act → World → Prop} {a : Act} {w : World} {l : List Oper} (n d1 : Nat) (t1 : TypeId) (z1 : Array Value) (hm : P.follows .mixedOrders = true) (hB : Region.lexTailB .any l.toArray (n + 1) = true)
    (o1 : ∃ o, l.toArray[n]? = some o ∧ o.dst = some d1 ∧ o.guard = none ∧ ∀ (a : Act) w, (execOp a.eval o).run P w = .ok (.value (.pointer (some ⟨w.heap.size, 0, none⟩))) (w.alloc (.cells z1 t1)))
    (hfar : farB1 l.toArray n d1 = true) (hs : Region.noSelect l.toArray = true)
    (h : wpCalm P l.toArray (fun w' => ∃ p : Regrown, w' = grow (redrawn w p.d) p.os) (fun a' => ∀ w' g1, Below w.heap.size w w' → Blk w' g1 t1 z1 → w.heap.size ≤ g1 →
      wpList P l.toArray Q (l.drop (n + 1)) (a'.put (some d1) (.pointer (some ⟨g1, 0, none⟩))) w') (l.take n) a) :
    (Code.region id l.toArray true).wp P Q a w := by
  obtain ⟨oa, a1, a2, a3, a4⟩ := o1
  refine wp_region_one (C := fun w' => ∃ p : Regrown, w' = grow (redrawn w p.d) p.os) n w.heap.size d1 t1 z1 hm hB ⟨⟨oa, a1, a2, a3, fun cs b => Region.noSelect_spec hs _ _ cs b a1, a4⟩, farB1_spec hfar hs, ?_, ?_⟩ ⟨⟨w.drawn + 1, #[]⟩, by rw [grow_empty]; rfl⟩ (wpCalm_mono (fun a' ha => ?_) _ _ h)
  · rintro _ o ⟨p, rfl⟩
    have hb := below_regrown w p.d p.os
    exact regrown_of_below (hb.alloc hb.size o)
  · rintro _ ⟨p, rfl⟩
    exact (below_regrown w p.d p.os).size
  · rintro w' g1 ⟨p, rfl⟩ h1
    exact ha _ g1 (below_regrown w p.d p.os) h1.1 h1.2
end Go.Proofs.Ytjcadgklamhohaa
