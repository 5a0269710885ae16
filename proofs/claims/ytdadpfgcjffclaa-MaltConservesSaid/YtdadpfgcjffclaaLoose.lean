/- A region that draws its order: two operations that look at no memory may come at any time (the length of a slice, which is handed back beside what is stored); the others are a quiet head and a forced tail. -/
import Derived.Test.YtdadpfgcjffclaaLateOne
namespace Go.Proofs.Ytdadpfgcjffclaa
open Go.RowKit Go.Sort

section
variable {P : Program} {ops : Array Oper} {md : Region.Mode} {C : World → Prop}

def sinkS (md : Region.Mode) (ops : Array Oper) (n : Nat) (S : List Nat) : Bool :=
  (List.range n).all fun i => S.contains i || (List.range (n + 1)).any fun j => decide (i < j) && Region.waitsFor md ops j i
theorem tail_waitsS {n : Nat} {S : List Nat} {listed : Array Bool} (hs : sinkS md ops n S = true) (hc : Region.chainB md ops n = true) (hn : n < ops.size) (inv : HeadInv md ops n listed) (hS : ∀ i ∈ S, listed.getD i true = true) :
    ∀ (d i : Nat), n - i = d → i < n → listed.getD i true = false → ∀ t, n ≤ t → t ∉ Region.ready md ops listed := by
  intro d
  induction d using Nat.strongRecOn with
  | _ d ih =>
    intro i hd hi hun t ht hr
    obtain ⟨_, ot, hot, hall⟩ := mem_ready.1 hr
    have htlt : t < ops.size := (Array.getElem?_eq_some_iff.1 hot).1
    by_cases htn : t = n
    · subst htn
      have h1 := List.all_eq_true.1 hs i (List.mem_range.2 hi)
      have hno : S.contains i = false := by
        cases hh : S.contains i with
        | false => rfl
        | true => have := hS i (by simpa using hh); rw [hun] at this; cases this
      rw [hno, Bool.false_or] at h1
      obtain ⟨j, hj, hj2⟩ := List.any_eq_true.1 h1
      simp only [Bool.and_eq_true, decide_eq_true_eq] at hj2
      obtain ⟨oj, hoj, e, he, hb, hon⟩ := Region.waitsFor_spec hj2.2
      have hjle : j ≤ t := by have := List.mem_range.1 hj; omega
      by_cases hjt : j = t
      · subst hjt
        have : oj = ot := Option.some.inj (hoj.symm.trans hot)
        subst this
        have h2 := hall e he hb
        rw [hon, getD_both hun] at h2
        cases h2
      · cases hl : listed.getD j false with
        | true =>
          have h2 := inv.closed j oj hoj hl e he hb
          rw [hon, getD_both hun] at h2
          cases h2
        | false =>
          have hjs : j < listed.size := by rw [inv.size]; omega
          exact ih (t - j) (by omega) j rfl (by omega) (getD_in hjs hl) t (Nat.le_refl _) hr
    · have h1 := List.all_eq_true.1 hc t (List.mem_range.2 htlt)
      simp only [Bool.or_eq_true, decide_eq_true_eq] at h1
      rcases h1 with h1 | h1
      · omega
      · obtain ⟨o', ho', e, he, hb, hon⟩ := Region.waitsFor_spec h1
        have : o' = ot := Option.some.inj (ho'.symm.trans hot)
        subst this
        have h2 := hall e he hb
        rw [hon, getD_both (inv.tail (t - 1) (by omega) (by omega))] at h2
        cases h2

theorem setS {S : List Nat} {listed : Array Bool} (hS : ∀ i ∈ S, listed.getD i true = true) (j : Nat) : ∀ i ∈ S, (listed.setIfInBounds j true).getD i true = true := by
  intro i hi
  by_cases h : j = i
  · subst h
    rcases Nat.lt_or_ge j listed.size with h' | h'
    · simp [h']
    · simp
  · rw [getD_set_ne true h]; exact hS i hi

theorem wpAnyT_firstS {n i : Nat} {S : List Nat} {oi : Oper} {v : Value} {L : Array Bool → Act → Prop} (hi : ops[i]? = some oi) (hsel : ∀ (j : Nat) (o : Oper) cs b, ops[j]? = some o → o.op ≠ .select cs b)
    (hs : sinkS md ops n S = true) (hc : Region.chainB md ops n = true) (hn : n < ops.size) (hin : i < n)
    (hdone : ∀ listed a, L listed a → ∀ j ∈ Region.ready md ops listed, n ≤ j) :
    ∀ (f : Nat) (listed : Array Bool) (a : Act), HeadInv md ops n listed → (∀ i ∈ S, listed.getD i true = true) →
      (∀ j oj, ops[j]? = some oj → j ≠ i → listed.getD j true = false → (∀ e ∈ oj.after, Region.binds md e = true → e.on ≠ i) → oi.apart ops oj = true) →
      i ∈ Region.ready md ops listed → YieldsIn P ops C oi v a →
      wpAnyT P md ops C n L f (listed.setIfInBounds i true) (a.put oi.dst v) → wpAnyT P md ops C n L (f + 1) listed a := by
  intro f
  induction f with
  | zero =>
    intro listed a inv hS _ hr hy H
    have hun := (mem_ready.1 hr).1
    refine ⟨fun h => (by rw [h] at hr; cases hr), fun j hj => ?_⟩
    have hjn : j < n := by
      rcases Nat.lt_or_ge j n with h | h
      · exact h
      · exact absurd hj (tail_waitsS hs hc hn inv hS _ i rfl hin hun j h)
    refine ⟨hjn, ?_⟩
    by_cases hji : j = i
    · subst hji; exact hy.qOp hi H
    · have := hdone _ _ H j (ready_mono hj hji)
      omega
  | succ f ih =>
    intro listed a inv hS hfree hr hy H
    have hun := (mem_ready.1 hr).1
    refine ⟨fun h => (by rw [h] at hr; cases hr), fun j hj => ?_⟩
    have hjn : j < n := by
      rcases Nat.lt_or_ge j n with h | h
      · exact h
      · exact absurd hj (tail_waitsS hs hc hn inv hS _ i rfl hin hun j h)
    refine ⟨hjn, ?_⟩
    by_cases hji : j = i
    · subst hji; exact hy.qOp hi H
    · have h1 := (H.2 j (ready_mono hj hji)).2
      obtain ⟨hjun, oj, hoj, hall⟩ := mem_ready.1 hj
      have hnot : ∀ e ∈ oj.after, Region.binds md e = true → e.on ≠ i := fun e he hb heq => by
        have h1 := hall e he hb
        rw [heq, getD_both hun] at h1
        cases h1
      have h2 := qOp_put hoj (hfree j oj hoj hji hjun hnot) (fun cs b => hsel i oi cs b hi) (fun cs b => hsel j oj cs b hoj) hy h1
      have hfree' : ∀ k ok, ops[k]? = some ok → k ≠ i → (listed.setIfInBounds j true).getD k true = false →
          (∀ e ∈ ok.after, Region.binds md e = true → e.on ≠ i) → oi.apart ops ok = true := fun k ok hk hki hun hno => by
        refine hfree k ok hk hki ?_ hno
        by_cases hjk : j = k
        · subst hjk; exact hjun
        · rw [getD_set_ne true hjk] at hun; exact hun
      refine qOp_mono (fun a' h3 => ih (listed.setIfInBounds j true) a' (inv.set hj hjn) (setS hS j) hfree' (ready_mono hr (Ne.symm hji)) h3.1 ?_) h2
      rw [Array.setIfInBounds_comm _ _ hji]
      exact h3.2

def lexHeadS (md : Region.Mode) (ops : Array Oper) (g n : Nat) : Nat → Nat → Array Bool → Bool
  | 0, _, listed => Region.seqB md ops g n listed
  | f + 1, k, listed => (Region.ready md ops listed).contains k && Region.free md ops listed k && lexHeadS md ops g n f (k + 1) (listed.setIfInBounds k true)

theorem wpAnyT_lexS {n m g : Nat} {S : List Nat} {Lq : Act → Prop} (hsel : Region.noSelect ops = true) (hs : sinkS md ops n S = true) (hc : Region.chainB md ops n = true) (hn : n < ops.size) (hmn : m ≤ n) :
    ∀ (l : List Oper) (k : Nat) (listed : Array Bool) (a : Act), (∀ j, j < l.length → l[j]? = ops[k + j]?) → k + l.length = m → HeadInv md ops n listed → (∀ i ∈ S, listed.getD i true = true) →
    lexHeadS md ops g n l.length k listed = true → wpQuiet P ops C Lq l a →
    wpAnyT P md ops C n (fun listed' a' => Region.seqB md ops g n listed' = true ∧ Lq a') l.length listed a
  | [], k, listed, a, _, _, _, _, hB, h => ⟨by simpa [lexHeadS] using hB, h⟩
  | o :: l, k, listed, a, hl, hk, inv, hS, hB, h => by
    have h0 : ops[k]? = some o := by simpa using (hl 0 (by simp)).symm
    simp only [List.length_cons, lexHeadS, Bool.and_eq_true] at hB
    obtain ⟨⟨hr, hf⟩, hB'⟩ := hB
    have hkn : k < n := by simp only [List.length_cons] at hk; omega
    have hr' : k ∈ Region.ready md ops listed := by simpa using hr
    have hst : qOp P ops C k (wpQuiet P ops C Lq l) a := by unfold qOp; simp only [h0]; exact h
    obtain ⟨v, hy, hK⟩ := yieldsIn_of_qOp h0 hst
    exact wpAnyT_firstS h0 (Region.noSelect_spec hsel) hs hc hn hkn (fun listed' a' hL => seqB_ready' hL.1) l.length listed a inv hS (Region.free_spec h0 hf) hr' hy
      (wpAnyT_lexS hsel hs hc hn hmn l (k + 1) _ _ (fun j hj => by have := hl (j + 1) (by simp; omega); simpa [Nat.add_assoc, Nat.add_comm 1 j] using this) (by simp only [List.length_cons] at hk; omega) (inv.set hr' hkn) (setS hS k) hB' hK)

/-- what the region must be: m quiet operations, two at any time, then a forced tail -/
def looseB (ops : Array Oper) (m : Nat) : Bool :=
  Region.noSelect ops && decide (m + 2 < ops.size) && sinkS .any ops (m + 2) [m, m + 1] && Region.chainB .any ops (m + 2) &&
  Region.free .any ops (Array.replicate ops.size false) m && (Region.ready .any ops (Array.replicate ops.size false)).contains m &&
  Region.free .any ops ((Array.replicate ops.size false).setIfInBounds m true) (m + 1) && (Region.ready .any ops ((Array.replicate ops.size false).setIfInBounds m true)).contains (m + 1) &&
  lexHeadS .any ops (ops.size - (m + 2)) (m + 2) m 0 (((Array.replicate ops.size false).setIfInBounds m true).setIfInBounds (m + 1) true)

theorem wp_region_loose {id : Nat} {Q : Exit → Act → World → Prop} {a : Act} {w : World} {l : List Oper} (m : Nat) {o1 o2 : Oper} {v1 v2 : Value} (hm : P.follows .mixedOrders = true) (hB : looseB l.toArray m = true)
    (h1 : l.toArray[m]? = some o1) (h2 : l.toArray[m + 1]? = some o2) (y1 : Yields P l.toArray o1 v1 a) (y2 : Yields P l.toArray o2 v2 (a.put o1.dst v1))
    (hQ1 : ∀ c a w, Q (.panic c) (a.put o1.dst v1) w → Q (.panic c) a w) (hQ2 : ∀ c a w, Q (.panic c) (a.put o2.dst v2) w → Q (.panic c) a w)
    (h : wpQuiet P l.toArray (fun w' => ∃ p : Regrown, w' = grow (redrawn w p.d) p.os) (fun a' => ∀ w', (∃ p : Regrown, w' = grow (redrawn w p.d) p.os) → wpList P l.toArray Q (l.drop (m + 2)) a' w') (l.take m) ((a.put o1.dst v1).put o2.dst v2)) :
    (Code.region id l.toArray true).wp P Q a w := by
  simp only [looseB, Bool.and_eq_true, decide_eq_true_eq] at hB
  obtain ⟨⟨⟨⟨⟨⟨⟨⟨hsel, hn⟩, hs⟩, hc⟩, hf1⟩, hr1⟩, hf2⟩, hr2⟩, hlex⟩ := hB
  have hn' : m + 2 < l.length := by simpa using hn
  have htl : (l.take m).length = m := by simp; omega
  have hdl : (l.drop (m + 2)).length = l.toArray.size - (m + 2) := by simp
  have inv0 : HeadInv .any l.toArray (m + 2) (Array.replicate l.toArray.size false) :=
    ⟨by simp, fun j oj _ hl => (by rw [getD_replicate_false] at hl; cases hl), fun t _ ht => getD_in (by simpa using ht) (getD_replicate_false _ _)⟩
  have inv1 := inv0.set (i := m) (by simpa using hr1) (by omega)
  have inv2 := inv1.set (i := m + 1) (by simpa using hr2) (by omega)
  refine wp_region_any hm ?_
  have hz : l.toArray.size = (m + (l.toArray.size - (m + 2)) + 1) + 1 := by simp; omega
  have key : wpAny P .any l.toArray Q (m + (l.toArray.size - (m + 2))) (((Array.replicate l.toArray.size false).setIfInBounds m true).setIfInBounds (m + 1) true) ((a.put o1.dst v1).put o2.dst v2) { w with drawn := w.drawn + 1 } := by
    have hSS : ∀ i ∈ [m, m + 1], (((Array.replicate l.toArray.size false).setIfInBounds m true).setIfInBounds (m + 1) true).getD i true = true := by
      intro i hi
      have hmz : m < l.length := by omega
      have hmz1 : m + 1 < l.length := by omega
      have : i = m ∨ i = m + 1 := by simpa using hi
      rcases this with rfl | rfl
      · rw [getD_set_ne true (by omega)]; simp [hmz]
      · simp [hmz1]
    have H := wpAnyT_lexS (md := .any) (m := m) (g := l.toArray.size - (m + 2)) hsel hs hc hn (by omega) (l.take m) 0 _ _ (fun j hj => by
      have hj' : j < m := by rw [htl] at hj; exact hj
      simp [hj']) (by simpa using htl) inv2 hSS (by rw [htl]; exact hlex) h
    have := wpAny_of_T (Q' := Q) (g := l.toArray.size - (m + 2)) (fun listed a' hL w' hw' => by
      have := wpAny_of_seq (md := .any) (Q' := Q) (l.drop (m + 2)) (m + 2) listed a' w' (fun j => by simp [List.getElem?_drop]) (by rw [hdl]; exact hL.1) (hL.2 w' hw')
      rwa [hdl] at this) _ _ _ H _ (⟨⟨w.drawn + 1, #[]⟩, (grow_empty _).symm⟩)
    rwa [htl] at this
  have k1 := wpAny_take h2 hsel hf2 hr2 hQ2 y2 key
  have k2 := wpAny_take h1 hsel hf1 hr1 hQ1 y1 k1
  suffices ∀ N, N = l.toArray.size → wpAny P .any l.toArray Q N (Array.replicate l.toArray.size false) a { w with drawn := w.drawn + 1 } from this _ rfl
  intro N hN
  rw [hN.trans hz]
  exact k2
end
end Go.Proofs.Ytdadpfgcjffclaa
