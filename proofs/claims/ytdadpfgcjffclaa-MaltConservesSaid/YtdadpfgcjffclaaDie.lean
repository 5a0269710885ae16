/- A region that draws its order, and in whose head one call surely panics: whatever the order, it ends so. -/
import Derived.Test.YtdadpfgcjffclaaLateOne
namespace Go.Proofs.Ytdadpfgcjffclaa
open Go.RowKit Go.Sort

section
variable {P : Program} {ops : Array Oper} {md : Region.Mode} {C : World → Prop} {ch : List PanicEntry} {c : Nat}

def dUpon (P : Program) (C : World → Prop) (ch : List PanicEntry) (die : Bool) (w : World) (v : Value) : Result Next → Prop
  | .ok (.value u) w' => die = false ∧ w' = w ∧ u = v
  | .ok .skip w' => die = false ∧ w' = w ∧ v = undef
  | .ok (.enter f args) w' => w' = w ∧ Calls P f args w (fun e w'' => e = (if die then .panicked ch else .returned v) ∧ C w'' ∧ NewOnly w w'')
  | _ => False
def dAt (P : Program) (o : Oper) (a : Act) (C : World → Prop) (ch : List PanicEntry) (die : Bool) (w : World) (v : Value) : Prop := dUpon P C ch die w v ((execOp a.eval o).run P w)

def dOp (P : Program) (ops : Array Oper) (C : World → Prop) (ch : List PanicEntry) (c i : Nat) (K : Act → Prop) (a : Act) : Prop :=
  match ops[i]? with
  | none => K a
  | some o => if Region.wanted o (yielded ops a.tmps) then ∃ v, (∀ w, C w → dAt P o a C ch (i == c) w v) ∧ K (a.put o.dst v) else i ≠ c ∧ K (a.put o.dst undef)
theorem dOp_mono {i : Nat} {a : Act} {K K' : Act → Prop} (h : ∀ a, K a → K' a) (hh : dOp P ops C ch c i K a) : dOp P ops C ch c i K' a := by
  unfold dOp at *
  split
  · exact h _ (by simpa [*] using hh)
  · rename_i o ho
    simp only [ho] at hh
    split
    · rename_i hw; simp only [hw, if_true] at hh; obtain ⟨v, h1, h2⟩ := hh; exact ⟨v, h1, h _ h2⟩
    · rename_i hw; simp only [hw] at hh; exact ⟨hh.1, h _ hh.2⟩

def YieldsD (P : Program) (ops : Array Oper) (C : World → Prop) (ch : List PanicEntry) (c i : Nat) (o : Oper) (v : Value) (a : Act) : Prop :=
  (Region.wanted o (yielded ops a.tmps) = true ∧ ∀ w, C w → dAt P o a C ch (i == c) w v) ∨ (Region.wanted o (yielded ops a.tmps) = false ∧ i ≠ c ∧ v = undef)
theorem YieldsD.dOp {i : Nat} {o : Oper} {v : Value} {a : Act} (hi : ops[i]? = some o) (hy : YieldsD P ops C ch c i o v a) {K : Act → Prop} (h : K (a.put o.dst v)) : dOp P ops C ch c i K a := by
  unfold Go.Proofs.Ytdadpfgcjffclaa.dOp
  simp only [hi]
  rcases hy with ⟨hw, hv⟩ | ⟨hw, hc, rfl⟩
  · simp only [hw, if_true]; exact ⟨v, hv, h⟩
  · simp only [hw, Bool.false_eq_true, if_false]; exact ⟨hc, h⟩
theorem YieldsD.of_same {i : Nat} {o : Oper} {v : Value} {a a' : Act} (hy : YieldsD P ops C ch c i o v a) (he : execOp a'.eval o = execOp a.eval o)
    (hw : Region.wanted o (yielded ops a'.tmps) = Region.wanted o (yielded ops a.tmps)) : YieldsD P ops C ch c i o v a' := by
  unfold YieldsD dAt at *
  rw [he, hw]
  exact hy
theorem yieldsD_of_dOp {i : Nat} {o : Oper} {a : Act} {K : Act → Prop} (hi : ops[i]? = some o) (h : dOp P ops C ch c i K a) : ∃ v, YieldsD P ops C ch c i o v a ∧ K (a.put o.dst v) := by
  unfold dOp at h
  simp only [hi] at h
  by_cases hw : Region.wanted o (yielded ops a.tmps) = true
  · simp only [hw, if_true] at h
    obtain ⟨v, h1, h2⟩ := h
    exact ⟨v, .inl ⟨hw, h1⟩, h2⟩
  · simp only [hw] at h
    exact ⟨undef, .inr ⟨by simpa using hw, h.1, rfl⟩, h.2⟩
theorem dOp_put {i j : Nat} {oi oj : Oper} {v : Value} (hj : ops[j]? = some oj) (hap : oi.apart ops oj = true)
    (hsi : ∀ cs b, oi.op ≠ .select cs b) (hsj : ∀ cs b, oj.op ≠ .select cs b) {K : Act → Prop} {a : Act}
    (hy : YieldsD P ops C ch c i oi v a) (h : dOp P ops C ch c j K (a.put oi.dst v)) :
    dOp P ops C ch c j (fun a' => YieldsD P ops C ch c i oi v a' ∧ K (a'.put oi.dst v)) a := by
  obtain ⟨h1, h2, h3⟩ := Oper.apart_spec hap
  have keep : ∀ (a : Act), YieldsD P ops C ch c i oi v a → ∀ u, YieldsD P ops C ch c i oi v (a.put oj.dst u) := fun a hy u =>
    hy.of_same (execOp_put oi hsi a oj.dst u h3) (wanted_put oi a oj.dst u h3)
  unfold dOp at *
  simp only [hj] at *
  rw [wanted_put oj a oi.dst v h1] at h
  split
  · rename_i hw
    simp only [hw, if_true] at h
    obtain ⟨u, hu, hn⟩ := h
    refine ⟨u, fun w hw' => ?_, keep a hy u, by rw [← Act.put_comm a v u h2]; exact hn⟩
    have := hu w hw'
    unfold dAt at *
    rwa [execOp_put oj hsj a oi.dst v h1] at this
  · rename_i hw
    simp only [hw] at h
    exact ⟨h.1, keep a hy _, by rw [← Act.put_comm a v undef h2]; exact h.2⟩

/-- the lexical walk; operation number c dies -/
def wpDie (P : Program) (ops : Array Oper) (C : World → Prop) (ch : List PanicEntry) (c : Nat) (Q : Act → Prop) : Nat → List Oper → Act → Prop
  | _, [], a => Q a
  | k, o :: rest, a => if Region.wanted o (yielded ops a.tmps) then ∃ v, (∀ w, C w → dAt P o a C ch (k == c) w v) ∧ wpDie P ops C ch c Q (k + 1) rest (a.put o.dst v) else k ≠ c ∧ wpDie P ops C ch c Q (k + 1) rest (a.put o.dst undef)
theorem dAt_calm {o : Oper} {a : Act} {w : World} {v : Value} (h : Oper.calmAt P o a C w v) : dAt P o a C ch false w v := by
  unfold dAt
  unfold Oper.calmAt at h
  generalize (execOp a.eval o).run P w = r at *
  cases r with
  | ok x w' =>
    cases x <;> simp only [Oper.calmUpon] at h <;> simp only [dUpon]
    case value u => exact ⟨trivial, h⟩
    case skip => exact ⟨trivial, h⟩
    case enter f args => exact ⟨h.1, h.2.mono fun e w'' hh => by simpa using hh⟩
  | halt x w' => simp only [Oper.calmUpon] at h
theorem wpDie_step {Q : Act → Prop} {a : Act} {o : Oper} {rest : List Oper} {k : Nat} (hk : (k == c) = false)
    (h : ∀ K : Act → Prop, (∀ a, wpDie P ops C ch c Q (k + 1) rest a → K a) → if Region.wanted o (yielded ops a.tmps) then Oper.calm P o a C K else K (a.put o.dst undef)) : wpDie P ops C ch c Q k (o :: rest) a := by
  have h1 := h _ (fun _ h => h)
  unfold wpDie
  split
  · rename_i hw
    rw [if_pos hw] at h1
    obtain ⟨v, h2, h3⟩ := h1
    rw [hk]
    exact ⟨v, fun w hC => dAt_calm (h2 w hC), h3⟩
  · rename_i hw
    rw [if_neg hw] at h1
    exact ⟨by simpa using hk, h1⟩
/-- the operation that dies; behind it, any value -/
theorem wpDie_here {Q : Act → Prop} {a : Act} {o : Oper} {rest : List Oper} (v : Value) (hw : Region.wanted o (yielded ops a.tmps) = true)
    (h : ∀ w, C w → ∃ f args, (execOp a.eval o).run P w = .ok (.enter f args) w ∧ Calls P f args w (fun e w'' => e = .panicked ch ∧ C w'' ∧ NewOnly w w'')) (hr : wpDie P ops C ch c Q (c + 1) rest (a.put o.dst v)) : wpDie P ops C ch c Q c (o :: rest) a := by
  unfold wpDie
  rw [if_pos hw]
  refine ⟨v, fun w hC => ?_, hr⟩
  obtain ⟨f, args, h1, h2⟩ := h w hC
  unfold dAt
  rw [h1]
  exact ⟨rfl, h2.mono fun e w'' hh => by simpa using hh⟩
theorem wpDie_nil {k : Nat} {Q : Act → Prop} {a : Act} (h : Q a) : wpDie P ops C ch c Q k [] a := h
theorem put_defers (a : Act) (x : Option Tmp) (v : Value) : (a.put x v).defers = a.defers := by cases x <;> rfl

def wpAnyX (P : Program) (md : Region.Mode) (ops : Array Oper) (C : World → Prop) (ch : List PanicEntry) (c n : Nat) (L : Array Bool → Act → Prop) : Nat → Array Bool → Act → Prop
  | 0, listed, a => L listed a
  | f + 1, listed, a =>
    Region.ready md ops listed ≠ [] ∧ ∀ i ∈ Region.ready md ops listed, i < n ∧ dOp P ops C ch c i (wpAnyX P md ops C ch c n L f (listed.setIfInBounds i true)) a

theorem wpAny_of_X {n g : Nat} {L : Array Bool → Act → Prop} {Q' : Exit → Act → World → Prop} {I : Act → Prop} (hI : ∀ (i : Nat) oj, ops[i]? = some oj → ∀ a v, I a → I (a.put oj.dst v)) (hLd : ∀ listed a, L listed a → listed.getD c true = true)
    (hQ : ∀ a' w', I a' → C w' → Q' (.panic ch) a' w') :
    ∀ (f : Nat) (listed : Array Bool) (a : Act), wpAnyX P md ops C ch c n L f listed a → listed.getD c true = false → I a → ∀ w, C w → wpAny P md ops Q' (f + g) listed a w
  | 0, listed, a, h, hl, _, w, hw => by
    have := hLd _ _ h
    rw [hl] at this
    cases this
  | f + 1, listed, a, h, hl, hd, w, hw => by
    rw [show f + 1 + g = (f + g) + 1 by omega]
    refine ⟨fun h0 => absurd h0 h.1, fun i hi => ?_⟩
    have hc := (h.2 i hi).2
    unfold dOp at hc
    unfold wpOp
    obtain ⟨_, oj, hoj, _⟩ := mem_ready.1 hi
    simp only [hoj] at hc ⊢
    split
    · rename_i hwd
      simp only [hwd, if_true] at hc
      obtain ⟨v, hv, hK⟩ := hc
      have hv := hv w hw
      refine .inl ?_
      unfold Oper.wp
      unfold dAt at hv
      by_cases hic : i = c
      · subst hic
        generalize (execOp a.eval oj).run P w = r at *
        cases r with
        | ok x w' =>
          cases x <;> simp only [dUpon, beq_self_eq_true, Bool.true_eq_false, false_and] at hv
          case enter fn args =>
            obtain ⟨e1, hcl⟩ := hv
            rw [e1]
            refine hcl.mono fun e w'' ⟨he, hw'', hb⟩ => ?_
            simp only [if_true] at he
            subst he
            exact hQ _ _ hd hw''
        | halt x w' => simp only [dUpon] at hv
      · have hn : (listed.setIfInBounds i true).getD c true = false := by rw [getD_set_ne true hic]; exact hl
        have hbe : (i == c) = false := by simpa using hic
        rw [hbe] at hv
        generalize (execOp a.eval oj).run P w = r at *
        cases r with
        | ok x w' =>
          cases x <;> simp only [dUpon] at hv <;> simp only [Oper.upon]
          case value u =>
            obtain ⟨_, e1, e2⟩ := hv
            rw [e1, e2]
            exact wpAny_of_X hI hLd hQ f _ _ hK hn (hI i oj hoj _ _ hd) w hw
          case skip =>
            obtain ⟨_, e1, e2⟩ := hv
            rw [e1, ← e2]
            exact wpAny_of_X hI hLd hQ f _ _ hK hn (hI i oj hoj _ _ hd) w hw
          case enter fn args =>
            obtain ⟨e1, hcl⟩ := hv
            rw [e1]
            refine hcl.mono fun e w'' ⟨he, hw'', hb⟩ => ?_
            simp only [Bool.false_eq_true, if_false] at he
            subst he
            exact wpAny_of_X hI hLd hQ f _ _ hK hn (hI i oj hoj _ _ hd) w'' hw''
        | halt x w' => simp only [dUpon] at hv
    · rename_i hwd
      simp only [hwd] at hc
      have hn : (listed.setIfInBounds i true).getD c true = false := by rw [getD_set_ne true hc.1]; exact hl
      exact wpAny_of_X hI hLd hQ f _ _ hc.2 hn (hI i oj hoj _ _ hd) w hw

theorem wpAnyX_first {n i : Nat} {oi : Oper} {v : Value} {L : Array Bool → Act → Prop} (hi : ops[i]? = some oi) (hsel : ∀ (j : Nat) (o : Oper) cs b, ops[j]? = some o → o.op ≠ .select cs b)
    (hs : Region.sinkB md ops n = true) (hc : Region.chainB md ops n = true) (hn : n < ops.size) (hin : i < n)
    (hdone : ∀ listed a, L listed a → ∀ j ∈ Region.ready md ops listed, n ≤ j) :
    ∀ (f : Nat) (listed : Array Bool) (a : Act), HeadInv md ops n listed →
      (∀ j oj, ops[j]? = some oj → j ≠ i → listed.getD j true = false → (∀ e ∈ oj.after, Region.binds md e = true → e.on ≠ i) → oi.apart ops oj = true) →
      i ∈ Region.ready md ops listed → YieldsD P ops C ch c i oi v a →
      wpAnyX P md ops C ch c n L f (listed.setIfInBounds i true) (a.put oi.dst v) → wpAnyX P md ops C ch c n L (f + 1) listed a := by
  intro f
  induction f with
  | zero =>
    intro listed a inv _ hr hy H
    have hun := (mem_ready.1 hr).1
    refine ⟨fun h => (by rw [h] at hr; cases hr), fun j hj => ?_⟩
    have hjn : j < n := by
      rcases Nat.lt_or_ge j n with h | h
      · exact h
      · exact absurd hj (tail_waits hs hc hn inv _ i rfl hin hun j h)
    refine ⟨hjn, ?_⟩
    by_cases hji : j = i
    · subst hji; exact hy.dOp hi H
    · have := hdone _ _ H j (ready_mono hj hji)
      omega
  | succ f ih =>
    intro listed a inv hfree hr hy H
    have hun := (mem_ready.1 hr).1
    refine ⟨fun h => (by rw [h] at hr; cases hr), fun j hj => ?_⟩
    have hjn : j < n := by
      rcases Nat.lt_or_ge j n with h | h
      · exact h
      · exact absurd hj (tail_waits hs hc hn inv _ i rfl hin hun j h)
    refine ⟨hjn, ?_⟩
    by_cases hji : j = i
    · subst hji; exact hy.dOp hi H
    · have h1 := (H.2 j (ready_mono hj hji)).2
      obtain ⟨hjun, oj, hoj, hall⟩ := mem_ready.1 hj
      have hnot : ∀ e ∈ oj.after, Region.binds md e = true → e.on ≠ i := fun e he hb heq => by
        have h1 := hall e he hb
        rw [heq, getD_both hun] at h1
        cases h1
      have h2 := dOp_put hoj (hfree j oj hoj hji hjun hnot) (fun cs b => hsel i oi cs b hi) (fun cs b => hsel j oj cs b hoj) hy h1
      have hfree' : ∀ k ok, ops[k]? = some ok → k ≠ i → (listed.setIfInBounds j true).getD k true = false →
          (∀ e ∈ ok.after, Region.binds md e = true → e.on ≠ i) → oi.apart ops ok = true := fun k ok hk hki hun hno => by
        refine hfree k ok hk hki ?_ hno
        by_cases hjk : j = k
        · subst hjk; exact hjun
        · rw [getD_set_ne true hjk] at hun; exact hun
      refine dOp_mono (fun a' h3 => ih (listed.setIfInBounds j true) a' (inv.set hj hjn) hfree' (ready_mono hr (Ne.symm hji)) h3.1 ?_) h2
      rw [Array.setIfInBounds_comm _ _ hji]
      exact h3.2

theorem wpAnyX_lex {n g : Nat} {Lq : Act → Prop} (hsel : Region.noSelect ops = true) (hs : Region.sinkB md ops n = true) (hc : Region.chainB md ops n = true) (hn : n < ops.size) :
    ∀ (l : List Oper) (k : Nat) (listed : Array Bool) (a : Act), (∀ j, j < l.length → l[j]? = ops[k + j]?) → k + l.length = n → HeadInv md ops n listed → (∀ j, j < k → listed.getD j true = true) →
    Region.lexHead md ops g l.length k listed = true → wpDie P ops C ch c Lq k l a →
    wpAnyX P md ops C ch c n (fun listed' a' => (Region.seqB md ops g n listed' = true ∧ (∀ j, j < n → listed'.getD j true = true)) ∧ Lq a') l.length listed a
  | [], k, listed, a, _, hk, _, hall, hB, h => by
    have : k = n := by simpa using hk
    subst this
    exact ⟨⟨by simpa [Region.lexHead] using hB, hall⟩, h⟩
  | o :: l, k, listed, a, hl, hk, inv, hall, hB, h => by
    have h0 : ops[k]? = some o := by simpa using (hl 0 (by simp)).symm
    simp only [List.length_cons, Region.lexHead, Bool.and_eq_true] at hB
    obtain ⟨⟨hr, hf⟩, hB'⟩ := hB
    have hkn : k < n := by simp only [List.length_cons] at hk; omega
    have hr' : k ∈ Region.ready md ops listed := by simpa using hr
    have hst : dOp P ops C ch c k (wpDie P ops C ch c Lq (k + 1) l) a := by unfold dOp; simp only [h0]; exact h
    obtain ⟨v, hy, hK⟩ := yieldsD_of_dOp h0 hst
    have hsz := inv.size
    exact wpAnyX_first h0 (Region.noSelect_spec hsel) hs hc hn hkn (fun listed' a' hL => seqB_ready' hL.1.1) l.length listed a inv (Region.free_spec h0 hf) hr' hy
      (wpAnyX_lex hsel hs hc hn l (k + 1) _ _ (fun j hj => by have := hl (j + 1) (by simp; omega); simpa [Nat.add_assoc, Nat.add_comm 1 j] using this) (by simp only [List.length_cons] at hk; omega) (inv.set hr' hkn) (fun j hj => by
        by_cases hjk : k = j
        · subst hjk
          have : k < listed.size := by omega
          simp [this]
        · rw [getD_set_ne true hjk]; exact hall j (by omega)) hB' hK)

theorem wp_region_die {id : Nat} {Q : Exit → Act → World → Prop} {a : Act} {w : World} {l : List Oper} {I : Act → Prop} (n c : Nat) (hm : P.follows .mixedOrders = true) (hB : Region.lexTailB .any l.toArray n = true) (hcn : c < n) (hC : C { w with drawn := w.drawn + 1 })
    (hI : ∀ (i : Nat) oj, l.toArray[i]? = some oj → ∀ a v, I a → I (a.put oj.dst v)) (hI0 : I a) (hQ : ∀ a' w', I a' → C w' → Q (.panic ch) a' w')
    (h : wpDie P l.toArray C ch c (fun _ => True) 0 (l.take n) a) : (Code.region id l.toArray true).wp P Q a w := by
  simp only [Region.lexTailB, Bool.and_eq_true, decide_eq_true_eq] at hB
  obtain ⟨⟨⟨⟨hsel, hn⟩, hs⟩, hc⟩, hlex⟩ := hB
  have hn' : n < l.length := by simpa using hn
  have htl : (l.take n).length = n := by simp; omega
  have inv0 : HeadInv .any l.toArray n (Array.replicate l.toArray.size false) :=
    ⟨by simp, fun j oj _ hl => (by rw [getD_replicate_false] at hl; cases hl), fun t _ ht => getD_in (by simpa using ht) (getD_replicate_false _ _)⟩
  have H := wpAnyX_lex (md := .any) (g := l.toArray.size - n) hsel hs hc hn (l.take n) 0 _ a (fun j hj => by
    have hj' : j < n := by rw [htl] at hj; exact hj
    simp [hj']) (by simpa using htl) inv0 (fun j hj => by omega) (by rw [htl]; exact hlex) h
  refine wp_region_any hm ?_
  have := wpAny_of_X (Q' := Q) (g := l.toArray.size - n) hI (fun listed a' hL => hL.1.2 c hcn) hQ _ _ _ H (getD_in (by simp; omega) (getD_replicate_false _ _)) hI0 _ hC
  rw [htl, show n + (l.toArray.size - n) = l.toArray.size by omega] at this
  exact this
end

theorem wp_region_die_below {P : Program} {id : Nat} {Q : Exit → Act → World → Prop} {a : Act} {w : World} {l : List Oper} (n c : Nat) (ch : List PanicEntry) (hm : P.follows .mixedOrders = true) (hB : Region.lexTailB .any l.toArray n = true) (hcn : c < n)
    (hQ : ∀ a' w', a'.defers = a.defers → Below w.heap.size w w' → Q (.panic ch) a' w')
    (h : wpDie P l.toArray (fun w' => ∃ p : Regrown, w' = grow (redrawn w p.d) p.os) ch c (fun _ => True) 0 (l.take n) a) : (Code.region id l.toArray true).wp P Q a w :=
  wp_region_die (C := fun w' => ∃ p : Regrown, w' = grow (redrawn w p.d) p.os) (I := fun a' => a'.defers = a.defers) n c hm hB hcn ⟨⟨w.drawn + 1, #[]⟩, by rw [grow_empty]; rfl⟩ (fun _ oj _ a' v hd => (put_defers _ _ _).trans hd) rfl (fun a' w' h1 h2 => by obtain ⟨p, rfl⟩ := h2; exact hQ a' _ h1 (below_regrown w p.d p.os)) h
/-- these two slots are no operation's -/
def slotsB (ops : Array Oper) (x y : Nat) : Bool := ops.all fun o => o.dst != some x && o.dst != some y
theorem put_slot {a : Act} {d : Option Tmp} {v : Value} {x : Nat} (h : d ≠ some x) : (a.put d v).tmps[x]? = a.tmps[x]? := by
  cases d with
  | none => rfl
  | some e =>
    have : e ≠ x := fun h' => h (by rw [h'])
    simp [Act.put, this]
theorem wp_region_die_keep {P : Program} {id : Nat} {Q : Exit → Act → World → Prop} {a : Act} {w : World} {l : List Oper} (n c : Nat) (ch : List PanicEntry) (x y : Nat) (hm : P.follows .mixedOrders = true) (hB : Region.lexTailB .any l.toArray n = true) (hcn : c < n) (hsl : slotsB l.toArray x y = true)
    (hQ : ∀ a' w', (a'.defers = a.defers ∧ a'.tmps[x]? = a.tmps[x]? ∧ a'.tmps[y]? = a.tmps[y]?) → Below w.heap.size w w' → Q (.panic ch) a' w')
    (h : wpDie P l.toArray (fun w' => ∃ p : Regrown, w' = grow (redrawn w p.d) p.os) ch c (fun _ => True) 0 (l.take n) a) : (Code.region id l.toArray true).wp P Q a w :=
  wp_region_die (C := fun w' => ∃ p : Regrown, w' = grow (redrawn w p.d) p.os) (I := fun a' => a'.defers = a.defers ∧ a'.tmps[x]? = a.tmps[x]? ∧ a'.tmps[y]? = a.tmps[y]?) n c hm hB hcn ⟨⟨w.drawn + 1, #[]⟩, by rw [grow_empty]; rfl⟩ (fun i oj hoj a' v hd => by
      have hmem := Array.all_eq_true'.1 hsl oj (Array.mem_of_getElem? hoj)
      simp only [Bool.and_eq_true, bne_iff_ne] at hmem
      exact ⟨(put_defers _ _ _).trans hd.1, (put_slot hmem.1).trans hd.2.1, (put_slot hmem.2).trans hd.2.2⟩) ⟨rfl, rfl, rfl⟩ (fun a' w' h1 h2 => by obtain ⟨p, rfl⟩ := h2; exact hQ a' _ h1 (below_regrown w p.d p.os)) h
theorem die_call {P : Program} {f : FuncId} {args : Array Value} {w : World} {d : Nat} {os : Array Obj} {ch : List PanicEntry}
    (h : ∀ W, Below w.heap.size w W → Calls P f args W fun e w' => e = .panicked ch ∧ Below W.heap.size W w') :
    Calls P f args (grow (redrawn w d) os) fun e w'' => e = .panicked ch ∧ (∃ p : Regrown, w'' = grow (redrawn w p.d) p.os) ∧ NewOnly (grow (redrawn w d) os) w'' :=
  (h _ (below_regrown w d os)).mono fun _ _ ⟨he, hb⟩ => ⟨he, regrown_of_below ((below_regrown w d os).trans (hb.mono (below_regrown w d os).size)), hb⟩
end Go.Proofs.Ytdadpfgcjffclaa
