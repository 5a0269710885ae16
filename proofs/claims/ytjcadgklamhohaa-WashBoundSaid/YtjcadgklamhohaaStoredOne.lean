/- A region that draws its order, with one new block into which a known row is stored while what comes behind may still be read: the order makes no difference. -/
import Derived.Test.YtjcadgklamhohaaStored
import Derived.Test.YtjcadgklamhohaaOne
namespace Go.Proofs.Ytjcadgklamhohaa
open Go.RowKit Go.Sort

section
variable {P : Program} {ops : Array Oper} {md : Region.Mode} {C : World → Prop}

/-- the new block comes up at n, its row is stored at n + 1: neither is looked at in the head -/
def wpAnyR (P : Program) (md : Region.Mode) (ops : Array Oper) (C : World → Prop) (n : Nat) (S : Act → Prop) (L : Array Bool → Act → Prop) : Nat → Array Bool → Act → Prop
  | 0, listed, a => L listed a
  | f + 1, listed, a =>
    Region.ready md ops listed ≠ [] ∧ ∀ i ∈ Region.ready md ops listed, i < n + 2 ∧ (i < n → cOp P ops C i (wpAnyR P md ops C n S L f (listed.setIfInBounds i true)) a) ∧
      (n ≤ i → (i = n + 1 → S a) ∧ wpAnyR P md ops C n S L f (listed.setIfInBounds i true) a)

structure StoredOne (P : Program) (md : Region.Mode) (ops : Array Oper) (C : World → Prop) (n B : Nat) (d1 src : Nat) (t1 : TypeId) (z1 y1 : Array Value) : Prop where
  one' : One P ops C n B d1 t1 z1
  o3 : ∃ o, ops[n + 1]? = some o ∧ o.op = .store t1 (.tmp d1) (.tmp src) ∧ o.dst = none ∧ o.guard = none ∧ ∃ e ∈ o.after, Region.binds md e = true ∧ e.on = n
  src1 : src ≠ d1
  sz : (P.info? t1).map (·.size) = some y1.size
  sz' : z1.size = y1.size
  one : y1.all (·.oneCell') = true
  row : ∀ w g, C w → B ≤ g → g < w.heap.size → C (w.setRow g y1)

variable {n B d1 src : Nat} {t1 : TypeId} {z1 y1 : Array Value}
theorem wpAny_of_R {g : Nat} {L : Array Bool → Act → Prop} {Q' : Exit → Act → World → Prop} (T : StoredOne P md ops C n B d1 src t1 z1 y1)
    (hLd : ∀ listed a, L listed a → listed.getD n true = true ∧ listed.getD (n + 1) true = true)
    (hL : ∀ listed a, L listed a → ∀ w g1, C w → Fresh B t1 y1 w (some g1) → wpAny P md ops Q' g listed (putO a d1 (some g1)) w) :
    ∀ (f : Nat) (listed : Array Bool) (a : Act), wpAnyR P md ops C n (SrcIs d1 src y1) L f listed a → ∀ (w : World) (o1 : Option Nat), C w → FreshS B t1 z1 y1 (listed.getD (n + 1) true) w o1 →
      (listed.getD n true = o1.isSome) → wpAny P md ops Q' (f + g) listed (putO a d1 o1) w
  | 0, listed, a, h, w, o1, hw, hf1, hl1 => by
    rw [Nat.zero_add]
    obtain ⟨e1, e3⟩ := hLd _ _ h
    rw [hl1] at e1
    rw [e3] at hf1
    obtain ⟨g1, rfl⟩ := Option.isSome_iff_exists.1 e1
    exact hL _ _ h w g1 hw hf1
  | f + 1, listed, a, h, w, o1, hw, hf1, hl1 => by
    rw [show f + 1 + g = (f + g) + 1 by omega]
    refine ⟨fun h0 => absurd h0 h.1, fun i hi => ?_⟩
    obtain ⟨hin, hq, ha⟩ := h.2 i hi
    have hun := (mem_ready.1 hi).1
    rcases Nat.lt_or_ge i n with hlt | hge
    · have hc := hq hlt
      obtain ⟨_, oj, hoj, _⟩ := mem_ready.1 hi
      obtain ⟨k1, k3, k5⟩ := T.one'.far i oj hlt hoj
      have hex : execOp (putO a d1 o1).eval oj = execOp a.eval oj := execOp_putO k5 k1
      have hwt : Region.wanted oj (yielded ops (putO a d1 o1).tmps) = Region.wanted oj (yielded ops a.tmps) := wanted_putO k1
      have hput : ∀ v, (putO a d1 o1).put oj.dst v = putO (a.put oj.dst v) d1 o1 := fun v => by rw [putO_put v k3]
      have hn1 : (listed.setIfInBounds i true).getD n true = o1.isSome := by rw [getD_set_ne true (by omega)]; exact hl1
      have hn3 : (listed.setIfInBounds i true).getD (n + 1) true = listed.getD (n + 1) true := getD_set_ne true (by omega)
      unfold wpOp
      unfold cOp at hc
      simp only [hoj] at hc ⊢
      rw [hwt]
      split
      · rename_i hwd
        simp only [hwd, if_true] at hc
        obtain ⟨v, hv, hK⟩ := hc
        have hv := hv w hw
        refine .inl ?_
        unfold Oper.wp
        unfold Oper.calmAt at hv
        rw [hex]
        generalize (execOp a.eval oj).run P w = r at *
        cases r with
        | ok x w' =>
          cases x <;> simp only [Oper.calmUpon] at hv <;> simp only [Oper.upon]
          case value u =>
            obtain ⟨e1, e2⟩ := hv
            rw [e1, e2, hput]
            exact wpAny_of_R T hLd hL f _ _ hK w o1 hw (by rw [hn3]; exact hf1) hn1
          case skip =>
            obtain ⟨e1, e2⟩ := hv
            rw [e1, ← e2, hput]
            exact wpAny_of_R T hLd hL f _ _ hK w o1 hw (by rw [hn3]; exact hf1) hn1
          case enter fn args =>
            obtain ⟨e1, hcl⟩ := hv
            rw [e1]
            refine hcl.mono fun e w'' ⟨he, hw'', hb⟩ => ?_
            subst he
            simp only []
            rw [hput]
            exact wpAny_of_R T hLd hL f _ _ hK w'' o1 hw'' (by rw [hn3]; exact hf1.below hb) hn1
        | halt x w' => simp only [Oper.calmUpon] at hv
      · rename_i hwd
        simp only [hwd] at hc
        rw [hput]
        exact wpAny_of_R T hLd hL f _ _ hc w o1 hw (by rw [hn3]; exact hf1) hn1
    · obtain ⟨hS, hK⟩ := ha hge
      have hlt0 : i < listed.size := by
        rcases Nat.lt_or_ge i listed.size with h' | h'
        · exact h'
        · simp [Array.getElem?_eq_none h'] at hun
      rcases (show n = i ∨ n + 1 = i by omega) with rfl | rfl
      · obtain ⟨o, ho, hd, hg, hs, hrun⟩ := T.one'.o1
        have hnone : o1 = none := by
          rw [hun] at hl1
          cases o1 with
          | none => rfl
          | some _ => cases hl1
        subst hnone
        have hn3 : (listed.setIfInBounds n true).getD (n + 1) true = listed.getD (n + 1) true := getD_set_ne true (by omega)
        have hs0 : listed.getD (n + 1) true = false := hf1
        unfold wpOp
        simp only [ho]
        rw [if_pos (by simp [Region.wanted, hg])]
        refine .inl ?_
        unfold Oper.wp
        rw [hrun, Oper.upon_value, hd]
        have e : (putO a d1 none).put (some d1) (.pointer (some ⟨w.heap.size, 0, none⟩)) = putO a d1 (some w.heap.size) := rfl
        rw [e]
        exact wpAny_of_R T hLd hL f _ _ hK _ _ (T.one'.cls _ _ hw) ⟨by rw [hn3, hs0]; exact Blk.new _ _ _, T.one'.base _ hw⟩ (by simp [hlt0])
      · obtain ⟨o, ho, hop, hd, hg, e, he, hb, hon⟩ := T.o3
        obtain ⟨hsrc, hsz⟩ := hS rfl
        obtain ⟨_, o', ho', hall⟩ := mem_ready.1 hi
        rw [ho] at ho'
        cases ho'
        have h1 := hall e he hb
        rw [hon] at h1
        have h2 : listed.getD n true = true := by
          have : n < listed.size := by omega
          simp [this] at h1 ⊢
          exact h1
        rw [hl1] at h2
        obtain ⟨g1, rfl⟩ := Option.isSome_iff_exists.1 h2
        obtain ⟨hf0, hB⟩ := hf1
        rw [hun] at hf0
        have hf1 : Blk w g1 t1 z1 := hf0
        have ev1 : (putO a d1 (some g1)).eval (.tmp d1) = .pointer (some ⟨g1, 0, none⟩) := by simp [putO, Act.put, Act.eval, hsz]
        have ev2 : (putO a d1 (some g1)).eval (.tmp src) = .agg y1 := (Act.eval_put (fun d e hh => by cases e; cases hh; exact T.src1 rfl)).trans hsrc
        have hn1 : (listed.setIfInBounds (n + 1) true).getD n true = true := by rw [getD_set_ne true (by omega), hl1]; rfl
        unfold wpOp
        simp only [ho]
        rw [if_pos (by simp [Region.wanted, hg])]
        refine .inl ?_
        refine wp_store_row t1 (.tmp d1) (.tmp src) hop g1 y1 ev1 ev2 t1 z1 hf1 T.sz T.sz' T.one ?_
        rw [hd]
        change wpAny P md ops Q' (f + g) (listed.setIfInBounds (n + 1) true) (putO a d1 (some g1)) (w.setRow g1 y1)
        refine wpAny_of_R T hLd hL f _ _ hK _ (some g1) (T.row _ _ hw hB hf1.lt) ⟨?_, hB⟩ hn1
        have : (listed.setIfInBounds (n + 1) true).getD (n + 1) true = true := by simp [hlt0]
        rw [this]
        exact blk_setRow_same hf1

theorem wpAnyR_firstQ {i : Nat} {oi o3 : Oper} {v : Value} {L : Array Bool → Act → Prop} (ho3 : ops[n + 1]? = some o3) (hop3 : o3.op = .store t1 (.tmp d1) (.tmp src)) (hi : ops[i]? = some oi) (hsel : ∀ (j : Nat) (o : Oper) cs b, ops[j]? = some o → o.op ≠ .select cs b)
    (hs : Region.sinkB md ops (n + 2) = true) (hc : Region.chainB md ops (n + 2) = true) (hn : n + 2 < ops.size) (hin : i < n)
    (hdone : ∀ listed a, L listed a → ∀ j ∈ Region.ready md ops listed, n + 2 ≤ j) :
    ∀ (f : Nat) (listed : Array Bool) (a : Act), HeadInv md ops (n + 2) listed →
      (∀ j oj, ops[j]? = some oj → j ≠ i → listed.getD j true = false → (∀ e ∈ oj.after, Region.binds md e = true → e.on ≠ i) → oi.apart ops oj = true) →
      i ∈ Region.ready md ops listed → YieldsC P ops C oi v a →
      wpAnyR P md ops C n (SrcIs d1 src y1) L f (listed.setIfInBounds i true) (a.put oi.dst v) → wpAnyR P md ops C n (SrcIs d1 src y1) L (f + 1) listed a := by
  intro f
  induction f with
  | zero =>
    intro listed a inv _ hr hy H
    have hun := (mem_ready.1 hr).1
    refine ⟨fun h => (by rw [h] at hr; cases hr), fun j hj => ?_⟩
    have hjn : j < n + 2 := by
      rcases Nat.lt_or_ge j (n + 2) with h | h
      · exact h
      · exact absurd hj (tail_waits hs hc hn inv _ i rfl (by omega) hun j h)
    by_cases hji : j = i
    · subst hji; exact ⟨hjn, fun _ => hy.cOp hi H, fun h => by omega⟩
    · have := hdone _ _ H j (ready_mono hj hji)
      omega
  | succ f ih =>
    intro listed a inv hfree hr hy H
    have hun := (mem_ready.1 hr).1
    refine ⟨fun h => (by rw [h] at hr; cases hr), fun j hj => ?_⟩
    have hjn : j < n + 2 := by
      rcases Nat.lt_or_ge j (n + 2) with h | h
      · exact h
      · exact absurd hj (tail_waits hs hc hn inv _ i rfl (by omega) hun j h)
    by_cases hji : j = i
    · subst hji; exact ⟨hjn, fun _ => hy.cOp hi H, fun h => by omega⟩
    · obtain ⟨hjun, oj, hoj, hall⟩ := mem_ready.1 hj
      have hnot : ∀ e ∈ oj.after, Region.binds md e = true → e.on ≠ i := fun e he hb heq => by
        have h1 := hall e he hb
        rw [heq, getD_both hun] at h1
        cases h1
      have hfree' : ∀ k ok, ops[k]? = some ok → k ≠ i → (listed.setIfInBounds j true).getD k true = false →
          (∀ e ∈ ok.after, Region.binds md e = true → e.on ≠ i) → oi.apart ops ok = true := fun k ok hk hki hun hno => by
        refine hfree k ok hk hki ?_ hno
        by_cases hjk : j = k
        · subst hjk; exact hjun
        · rw [getD_set_ne true hjk] at hun; exact hun
      obtain ⟨_, hq, ha⟩ := H.2 j (ready_mono hj hji)
      refine ⟨hjn, fun hjl => ?_, fun hjg => ?_⟩
      · have h2 := cOp_put hoj (hfree j oj hoj hji hjun hnot) (fun cs b => hsel i oi cs b hi) (fun cs b => hsel j oj cs b hoj) hy (hq hjl)
        refine cOp_mono (fun a' h3 => ih (listed.setIfInBounds j true) a' (inv.set hj hjn) hfree' (ready_mono hr (Ne.symm hji)) h3.1 ?_) h2
        rw [Array.setIfInBounds_comm _ _ hji]
        exact h3.2
      · refine ⟨fun hj3 => ?_, ih (listed.setIfInBounds j true) a (inv.set hj hjn) hfree' (ready_mono hr (Ne.symm hji)) hy ?_⟩
        · subst hj3
          rw [ho3] at hoj
          cases hoj
          refine ((ha hjg).1 rfl).of_put fun hd => ?_
          have h4 := (Oper.apart_spec (hfree (n + 1) o3 ho3 hji hjun hnot)).1 _ hd
          refine h4 (List.mem_append_left _ (List.mem_filterMap.2 ⟨.tmp src, ?_, rfl⟩))
          rw [hop3]
          simp [Op.operands]
        · rw [Array.setIfInBounds_comm _ _ hji]
          exact (ha hjg).2

theorem wpAnyR_firstA {i : Nat} {S : Act → Prop} {L : Array Bool → Act → Prop} (hs : Region.sinkB md ops (n + 2) = true) (hc : Region.chainB md ops (n + 2) = true) (hn : n + 2 < ops.size) (hin : i < n + 2) (hge : n ≤ i)
    (hdone : ∀ listed a, L listed a → ∀ j ∈ Region.ready md ops listed, n + 2 ≤ j) :
    ∀ (f : Nat) (listed : Array Bool) (a : Act), HeadInv md ops (n + 2) listed → i ∈ Region.ready md ops listed → (i = n + 1 → ∀ j, j < n → listed.getD j true = true) → (i = n + 1 → S a) →
      wpAnyR P md ops C n S L f (listed.setIfInBounds i true) a → wpAnyR P md ops C n S L (f + 1) listed a := by
  intro f
  induction f with
  | zero =>
    intro listed a inv hr _ hS H
    have hun := (mem_ready.1 hr).1
    refine ⟨fun h => (by rw [h] at hr; cases hr), fun j hj => ?_⟩
    have hjn : j < n + 2 := by
      rcases Nat.lt_or_ge j (n + 2) with h | h
      · exact h
      · exact absurd hj (tail_waits hs hc hn inv _ i rfl hin hun j h)
    by_cases hji : j = i
    · subst hji; exact ⟨hjn, fun h => by omega, fun _ => ⟨hS, H⟩⟩
    · have := hdone _ _ H j (ready_mono hj hji)
      omega
  | succ f ih =>
    intro listed a inv hr hall3 hS H
    have hun := (mem_ready.1 hr).1
    refine ⟨fun h => (by rw [h] at hr; cases hr), fun j hj => ?_⟩
    have hjn : j < n + 2 := by
      rcases Nat.lt_or_ge j (n + 2) with h | h
      · exact h
      · exact absurd hj (tail_waits hs hc hn inv _ i rfl hin hun j h)
    by_cases hji : j = i
    · subst hji; exact ⟨hjn, fun h => by omega, fun _ => ⟨hS, H⟩⟩
    · obtain ⟨_, hq, ha⟩ := H.2 j (ready_mono hj hji)
      refine ⟨hjn, fun hjl => ?_, fun hjg => ?_⟩
      · have hno : i ≠ n + 1 := fun e => by
          have h1 := hall3 e j hjl
          have h2 := (mem_ready.1 hj).1
          rw [h1] at h2
          cases h2
        refine cOp_mono (fun a' h3 => ih (listed.setIfInBounds j true) a' (inv.set hj hjn) (ready_mono hr (Ne.symm hji)) (fun e => absurd e hno) (fun e => absurd e hno) ?_) (hq hjl)
        rw [Array.setIfInBounds_comm _ _ hji]
        exact h3
      · refine ⟨(ha hjg).1, ih (listed.setIfInBounds j true) a (inv.set hj hjn) (ready_mono hr (Ne.symm hji)) (fun e k hk => by rw [getD_set_ne true (by omega)]; exact hall3 e k hk) hS ?_⟩
        rw [Array.setIfInBounds_comm _ _ hji]
        exact (ha hjg).2

theorem wpAnyR_lex {g : Nat} {o3 : Oper} {Lq : Act → Prop} (ho3 : ops[n + 1]? = some o3) (hop3 : o3.op = .store t1 (.tmp d1) (.tmp src)) (hLq : ∀ a, Lq a → SrcIs d1 src y1 a) (hsel : Region.noSelect ops = true) (hs : Region.sinkB md ops (n + 2) = true) (hc : Region.chainB md ops (n + 2) = true) (hn : n + 2 < ops.size) :
    ∀ (l : List Oper) (k : Nat) (listed : Array Bool) (a : Act), (∀ j, j < l.length → l[j]? = ops[k + j]?) → k + l.length = n → HeadInv md ops (n + 2) listed → (∀ j, j < k → listed.getD j true = true) →
    Region.lexHead md ops g (l.length + 2) k listed = true → wpCalm P ops C Lq l a →
    wpAnyR P md ops C n (SrcIs d1 src y1) (fun listed' a' => (Region.seqB md ops g (n + 2) listed' = true ∧ listed'.getD n true = true ∧ listed'.getD (n + 1) true = true) ∧ Lq a') (l.length + 2) listed a
  | [], k, listed, a, _, hk, inv, hdk, hB, h => by
    have : k = n := by simpa using hk
    subst this
    simp only [List.length_nil, Region.lexHead, Bool.and_eq_true] at hB
    obtain ⟨⟨hr, _⟩, ⟨hr2, _⟩, hB'⟩ := hB
    have hr' : k ∈ Region.ready md ops listed := by simpa using hr
    have hr2' : k + 1 ∈ Region.ready md ops (listed.setIfInBounds k true) := by simpa using hr2
    have hd : ∀ listed' a', ((Region.seqB md ops g (k + 2) listed' = true ∧ listed'.getD k true = true ∧ listed'.getD (k + 1) true = true) ∧ Lq a') → ∀ j ∈ Region.ready md ops listed', k + 2 ≤ j := fun listed' a' hL => seqB_ready' hL.1.1
    have hz : listed.size = ops.size := inv.size
    refine wpAnyR_firstA hs hc hn (by omega) (Nat.le_refl _) hd 1 listed a inv hr' (fun e => by omega) (fun e => by omega) ?_
    refine wpAnyR_firstA hs hc hn (by omega) (by omega) hd 0 _ a (inv.set hr' (by omega)) hr2' (fun _ j hj => by rw [getD_set_ne true (by omega)]; exact hdk j hj) (fun _ => hLq _ h) ?_
    refine ⟨⟨hB', ?_, ?_⟩, h⟩
    · rw [getD_set_ne true (by omega)]
      simp
    · simp
  | o :: l, k, listed, a, hl, hk, inv, hdk, hB, h => by
    have h0 : ops[k]? = some o := by simpa using (hl 0 (by simp)).symm
    simp only [List.length_cons] at hB hk
    rw [show l.length + 1 + 2 = (l.length + 2) + 1 by omega] at hB
    rw [Region.lexHead] at hB
    simp only [Bool.and_eq_true] at hB
    obtain ⟨⟨hr, hf⟩, hB'⟩ := hB
    have hkn : k < n := by omega
    have hr' : k ∈ Region.ready md ops listed := by simpa using hr
    have hst : cOp P ops C k (wpCalm P ops C Lq l) a := by unfold cOp; simp only [h0]; exact h
    obtain ⟨v, hy, hK⟩ := yieldsC_of_cOp h0 hst
    exact wpAnyR_firstQ ho3 hop3 h0 (Region.noSelect_spec hsel) hs hc hn hkn (fun listed' a' hL => seqB_ready' hL.1.1) (l.length + 2) listed a inv (Region.free_spec h0 hf) hr' hy
      (wpAnyR_lex ho3 hop3 hLq hsel hs hc hn l (k + 1) _ _ (fun j hj => by have := hl (j + 1) (by simp; omega); simpa [Nat.add_assoc, Nat.add_comm 1 j] using this) (by omega) (inv.set hr' (by omega))
        (fun j hj => by
          by_cases e : j = k
          · subst e
            have : j < listed.size := by rw [inv.size]; omega
            simp [this]
          · rw [getD_set_ne true (by omega)]; exact hdk j (by omega)) hB' hK)
end

theorem wp_region_one_stored {P : Program} {id : Nat} {Q : Exit → Act → World → Prop} {a : Act} {w : World} {l : List Oper} (n d1 src : Nat) (t1 : TypeId) (z1 y1 : Array Value) (hm : P.follows .mixedOrders = true) (hB : Region.lexTailB .any l.toArray (n + 2) = true)
    (o1 : ∃ o, l.toArray[n]? = some o ∧ o.dst = some d1 ∧ o.guard = none ∧ ∀ (a : Act) w, (execOp a.eval o).run P w = .ok (.value (.pointer (some ⟨w.heap.size, 0, none⟩))) (w.alloc (.cells z1 t1)))
    (o3 : ∃ o, l.toArray[n + 1]? = some o ∧ o.op = .store t1 (.tmp d1) (.tmp src) ∧ o.dst = none ∧ o.guard = none ∧ (o.after.any fun e => Region.binds .any e && e.on == n) = true)
    (hsz : (P.info? t1).map (·.size) = some y1.size) (hsz' : z1.size = y1.size) (h1 : y1.all (·.oneCell') = true)
    (hs1 : src ≠ d1) (hfar : farB1 l.toArray n d1 = true) (hs : Region.noSelect l.toArray = true)
    (h : wpCalm P l.toArray (fun w' => ∃ p : Regrown, w' = grow (redrawn w p.d) p.os) (fun a' => SrcIs d1 src y1 a' ∧ ∀ w' g1, Below w.heap.size w w' → Blk w' g1 t1 y1 → w.heap.size ≤ g1 →
      wpList P l.toArray Q (l.drop (n + 2)) (a'.put (some d1) (.pointer (some ⟨g1, 0, none⟩))) w') (l.take n) a) :
    (Code.region id l.toArray true).wp P Q a w := by
  obtain ⟨oc, c1, c2, c3, c4, c5⟩ := o3
  obtain ⟨e, he, hb⟩ := Array.any_eq_true'.1 c5
  simp only [Bool.and_eq_true, beq_iff_eq] at hb
  obtain ⟨oa, a1, a2, a3, a4⟩ := o1
  have T : StoredOne P .any l.toArray (fun w' => ∃ p : Regrown, w' = grow (redrawn w p.d) p.os) n w.heap.size d1 src t1 z1 y1 :=
    ⟨⟨⟨oa, a1, a2, a3, fun cs b => Region.noSelect_spec hs _ _ cs b a1, a4⟩, farB1_spec hfar hs, by
        rintro _ o ⟨p, rfl⟩
        have hb := below_regrown w p.d p.os
        exact regrown_of_below (hb.alloc hb.size o), by
        rintro _ ⟨p, rfl⟩
        exact (below_regrown w p.d p.os).size⟩, ⟨oc, c1, c2, c3, c4, e, he, hb.1, hb.2⟩, hs1, hsz, hsz', h1, by
      rintro _ g ⟨p, rfl⟩ hg hlt
      exact regrown_of_below (below_setRow (below_regrown w p.d p.os) hg)⟩
  simp only [Region.lexTailB, Bool.and_eq_true, decide_eq_true_eq] at hB
  obtain ⟨⟨⟨⟨hsel, hn⟩, hs'⟩, hc⟩, hlex⟩ := hB
  have hn' : n + 2 < l.length := by simpa using hn
  have htl : (l.take n).length = n := by simp; omega
  have hdl : (l.drop (n + 2)).length = l.toArray.size - (n + 2) := by simp
  have inv0 : HeadInv .any l.toArray (n + 2) (Array.replicate l.toArray.size false) :=
    ⟨by simp, fun j oj _ hl => (by rw [getD_replicate_false] at hl; cases hl), fun t _ ht => getD_in (by simpa using ht) (getD_replicate_false _ _)⟩
  have hl0 : ∀ m, m < l.toArray.size → (Array.replicate l.toArray.size false).getD m true = false := fun m hm => getD_in (by simpa using hm) (getD_replicate_false _ _)
  have H := wpAnyR_lex (md := .any) (g := l.toArray.size - (n + 2)) c1 c2 (fun a' ha => ha.1) hsel hs' hc hn (l.take n) 0 _ a (fun j hj => by
    have hj' : j < n := by rw [htl] at hj; exact hj
    simp [hj']) (by simpa using htl) inv0 (fun j hj => by omega) (by rw [htl]; exact hlex) h
  refine wp_region_any hm ?_
  have := wpAny_of_R (Q' := Q) (g := l.toArray.size - (n + 2)) T (fun listed a' hL => hL.1.2) (fun listed a' hL w' g1 hw' f1 => by
    obtain ⟨p, rfl⟩ := hw'
    have := wpAny_of_seq (md := .any) (Q' := Q) (l.drop (n + 2)) (n + 2) listed _ (grow (redrawn w p.d) p.os) (fun j => by simp [List.getElem?_drop]) (by rw [hdl]; exact hL.1.1) (hL.2.2 _ g1 (below_regrown w p.d p.os) f1.1 f1.2)
    rwa [hdl] at this) _ _ _ H { w with drawn := w.drawn + 1 } none ⟨⟨w.drawn + 1, #[]⟩, by rw [grow_empty]; rfl⟩ (hl0 (n + 1) (by omega)) (hl0 n (by omega))
  rw [htl, show n + 2 + (l.toArray.size - (n + 2)) = l.toArray.size by omega] at this
  exact this
end Go.Proofs.Ytjcadgklamhohaa
