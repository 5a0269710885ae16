/- A region that draws its order: first operations that only read or call functions that turn nothing old, and beside them two new blocks in whatever place; then a forced tail. One walk serves every order. -/
import Derived.Test.YtjcadgklamhohaaTail
import Derived.Test.YtjcadgklamhohaaBlk
namespace Go.Proofs.Ytjcadgklamhohaa
open Go.RowKit Go.Sort

section
variable {P : Program} {ops : Array Oper} {md : Region.Mode} {C : World → Prop}

/-- of what was there nothing has turned -/
def NewOnly (w w' : World) : Prop := Below w.heap.size w w'
def Oper.calmUpon (P : Program) (C : World → Prop) (w : World) (v : Value) : Result Next → Prop
  | .ok (.value u) w' => w' = w ∧ u = v
  | .ok .skip w' => w' = w ∧ v = undef
  | .ok (.enter f args) w' => w' = w ∧ Calls P f args w (fun e w'' => e = .returned v ∧ C w'' ∧ NewOnly w w'')
  | _ => False
def Oper.calmAt (P : Program) (o : Oper) (a : Act) (C : World → Prop) (w : World) (v : Value) : Prop := Oper.calmUpon P C w v ((execOp a.eval o).run P w)
def Oper.calm (P : Program) (o : Oper) (a : Act) (C : World → Prop) (next : Act → Prop) : Prop := ∃ v, (∀ w, C w → Oper.calmAt P o a C w v) ∧ next (a.put o.dst v)

def wpCalm (P : Program) (ops : Array Oper) (C : World → Prop) (Q : Act → Prop) : List Oper → Act → Prop
  | [], a => Q a
  | o :: rest, a => if Region.wanted o (yielded ops a.tmps) then Oper.calm P o a C (wpCalm P ops C Q rest) else wpCalm P ops C Q rest (a.put o.dst undef)
theorem wpCalm_nil {Q : Act → Prop} {a : Act} (h : Q a) : wpCalm P ops C Q [] a := h
theorem wpCalm_step {Q : Act → Prop} {a : Act} {o : Oper} {rest : List Oper}
    (h : ∀ K : Act → Prop, (∀ a, wpCalm P ops C Q rest a → K a) → if Region.wanted o (yielded ops a.tmps) then Oper.calm P o a C K else K (a.put o.dst undef)) : wpCalm P ops C Q (o :: rest) a :=
  h _ (fun _ h => h)

def cOp (P : Program) (ops : Array Oper) (C : World → Prop) (i : Nat) (K : Act → Prop) (a : Act) : Prop :=
  match ops[i]? with
  | none => K a
  | some o => if Region.wanted o (yielded ops a.tmps) then Oper.calm P o a C K else K (a.put o.dst undef)
theorem cOp_mono {i : Nat} {a : Act} {K K' : Act → Prop} (h : ∀ a, K a → K' a) (hh : cOp P ops C i K a) : cOp P ops C i K' a := by
  unfold cOp at *
  split
  · exact h _ (by simpa [*] using hh)
  · rename_i o ho
    simp only [ho] at hh
    split
    · rename_i hw; simp only [hw, if_true] at hh; obtain ⟨v, h1, h2⟩ := hh; exact ⟨v, h1, h _ h2⟩
    · rename_i hw; simp only [hw] at hh; exact h _ hh

def YieldsC (P : Program) (ops : Array Oper) (C : World → Prop) (o : Oper) (v : Value) (a : Act) : Prop :=
  (Region.wanted o (yielded ops a.tmps) = true ∧ ∀ w, C w → Oper.calmAt P o a C w v) ∨ (Region.wanted o (yielded ops a.tmps) = false ∧ v = undef)
theorem YieldsC.cOp {i : Nat} {o : Oper} {v : Value} {a : Act} (hi : ops[i]? = some o) (hy : YieldsC P ops C o v a) {K : Act → Prop} (h : K (a.put o.dst v)) : cOp P ops C i K a := by
  unfold Go.Proofs.Ytjcadgklamhohaa.cOp
  simp only [hi]
  rcases hy with ⟨hw, hv⟩ | ⟨hw, rfl⟩
  · simp only [hw, if_true]; exact ⟨v, hv, h⟩
  · simp only [hw, Bool.false_eq_true, if_false]; exact h
theorem YieldsC.of_same {o : Oper} {v : Value} {a a' : Act} (hy : YieldsC P ops C o v a) (he : execOp a'.eval o = execOp a.eval o)
    (hw : Region.wanted o (yielded ops a'.tmps) = Region.wanted o (yielded ops a.tmps)) : YieldsC P ops C o v a' := by
  unfold YieldsC Oper.calmAt at *
  rw [he, hw]
  exact hy
theorem yieldsC_of_cOp {i : Nat} {o : Oper} {a : Act} {K : Act → Prop} (hi : ops[i]? = some o) (h : cOp P ops C i K a) : ∃ v, YieldsC P ops C o v a ∧ K (a.put o.dst v) := by
  unfold cOp at h
  simp only [hi] at h
  by_cases hw : Region.wanted o (yielded ops a.tmps) = true
  · simp only [hw, if_true] at h
    obtain ⟨v, h1, h2⟩ := h
    exact ⟨v, .inl ⟨hw, h1⟩, h2⟩
  · simp only [hw] at h
    exact ⟨undef, .inr ⟨by simpa using hw, rfl⟩, h⟩
theorem cOp_put {j : Nat} {oi oj : Oper} {v : Value} (hj : ops[j]? = some oj) (hap : oi.apart ops oj = true)
    (hsi : ∀ cs b, oi.op ≠ .select cs b) (hsj : ∀ cs b, oj.op ≠ .select cs b) {K : Act → Prop} {a : Act}
    (hy : YieldsC P ops C oi v a) (h : cOp P ops C j K (a.put oi.dst v)) :
    cOp P ops C j (fun a' => YieldsC P ops C oi v a' ∧ K (a'.put oi.dst v)) a := by
  obtain ⟨h1, h2, h3⟩ := Oper.apart_spec hap
  have keep : ∀ (a : Act), YieldsC P ops C oi v a → ∀ u, YieldsC P ops C oi v (a.put oj.dst u) := fun a hy u =>
    hy.of_same (execOp_put oi hsi a oj.dst u h3) (wanted_put oi a oj.dst u h3)
  unfold cOp at *
  simp only [hj] at *
  rw [wanted_put oj a oi.dst v h1] at h
  split
  · rename_i hw
    simp only [hw, if_true] at h
    obtain ⟨u, hu, hn⟩ := h
    refine ⟨u, fun w hw' => ?_, keep a hy u, by rw [← Act.put_comm a v u h2]; exact hn⟩
    have := hu w hw'
    unfold Oper.calmAt at *
    rwa [execOp_put oj hsj a oi.dst v h1] at this
  · rename_i hw
    simp only [hw] at h
    exact ⟨keep a hy _, by rw [← Act.put_comm a v undef h2]; exact h⟩

/-- the two new blocks come up at n and n + 1 and are not looked at in the head -/
def wpAnyG (P : Program) (md : Region.Mode) (ops : Array Oper) (C : World → Prop) (n : Nat) (L : Array Bool → Act → Prop) : Nat → Array Bool → Act → Prop
  | 0, listed, a => L listed a
  | f + 1, listed, a =>
    Region.ready md ops listed ≠ [] ∧ ∀ i ∈ Region.ready md ops listed, i < n + 2 ∧ (i < n → cOp P ops C i (wpAnyG P md ops C n L f (listed.setIfInBounds i true)) a) ∧ (n ≤ i → wpAnyG P md ops C n L f (listed.setIfInBounds i true) a)

def putO (a : Act) (d : Nat) : Option Nat → Act
  | none => a
  | some g => a.put (some d) (.pointer (some ⟨g, 0, none⟩))
def Fresh (B : Nat) (t : TypeId) (z : Array Value) (w : World) : Option Nat → Prop
  | none => True
  | some g => Blk w g t z ∧ B ≤ g
theorem Fresh.below {B : Nat} {t : TypeId} {z : Array Value} {w w' : World} {o : Option Nat} (h : Fresh B t z w o) (hb : Below w.heap.size w w') : Fresh B t z w' o := by
  cases o with
  | none => trivial
  | some g => exact ⟨h.1.below hb h.1.lt, h.2⟩

structure Two (P : Program) (ops : Array Oper) (C : World → Prop) (n B : Nat) (d1 d2 : Nat) (t1 t2 : TypeId) (z1 z2 : Array Value) : Prop where
  o1 : ∃ o, ops[n]? = some o ∧ o.dst = some d1 ∧ o.guard = none ∧ (∀ cs b, o.op ≠ .select cs b) ∧ ∀ (a : Act) w, (execOp a.eval o).run P w = .ok (.value (.pointer (some ⟨w.heap.size, 0, none⟩))) (w.alloc (.cells z1 t1))
  o2 : ∃ o, ops[n + 1]? = some o ∧ o.dst = some d2 ∧ o.guard = none ∧ (∀ cs b, o.op ≠ .select cs b) ∧ ∀ (a : Act) w, (execOp a.eval o).run P w = .ok (.value (.pointer (some ⟨w.heap.size, 0, none⟩))) (w.alloc (.cells z2 t2))
  ne : d1 ≠ d2
  far : ∀ j oj, j < n → ops[j]? = some oj → d1 ∉ oj.looksAt ops ∧ d2 ∉ oj.looksAt ops ∧ oj.dst ≠ some d1 ∧ oj.dst ≠ some d2 ∧ (∀ cs b, oj.op ≠ .select cs b)
  cls : ∀ w o, C w → C (w.alloc o)
  base : ∀ w, C w → B ≤ w.heap.size

variable {n B d1 d2 : Nat} {t1 t2 : TypeId} {z1 z2 : Array Value}
theorem putO_put {a : Act} {d : Nat} {o : Option Nat} {x : Option Tmp} (v : Value) (h : x ≠ some d) : putO (a.put x v) d o = (putO a d o).put x v := by
  cases o with
  | none => rfl
  | some g => exact Act.put_comm (x := x) (y := some d) a v _ (fun e he hd => h (he.trans hd.symm))
theorem execOp_putO {oj : Oper} (hs : ∀ cs b, oj.op ≠ .select cs b) {a : Act} {d : Nat} {o : Option Nat} (h : d ∉ oj.looksAt ops) : execOp (putO a d o).eval oj = execOp a.eval oj := by
  cases o with
  | none => rfl
  | some g => exact execOp_put (ops := ops) oj hs a _ _ (fun e he => by cases he; exact h)
theorem wanted_putO {oj : Oper} {a : Act} {d : Nat} {o : Option Nat} (h : d ∉ oj.looksAt ops) : Region.wanted oj (yielded ops (putO a d o).tmps) = Region.wanted oj (yielded ops a.tmps) := by
  cases o with
  | none => rfl
  | some g => exact wanted_put oj a _ _ (fun e he => by cases he; exact h)

theorem wpAny_of_G {g : Nat} {L : Array Bool → Act → Prop} {Q' : Exit → Act → World → Prop} (T : Two P ops C n B d1 d2 t1 t2 z1 z2)
    (hLd : ∀ listed a, L listed a → listed.getD n true = true ∧ listed.getD (n + 1) true = true)
    (hL : ∀ listed a, L listed a → ∀ w g1 g2, C w → Fresh B t1 z1 w (some g1) → Fresh B t2 z2 w (some g2) → g1 ≠ g2 → wpAny P md ops Q' g listed (putO (putO a d1 (some g1)) d2 (some g2)) w) :
    ∀ (f : Nat) (listed : Array Bool) (a : Act), wpAnyG P md ops C n L f listed a → ∀ (w : World) (o1 o2 : Option Nat), C w → Fresh B t1 z1 w o1 → Fresh B t2 z2 w o2 → (∀ g, o1 = some g → o2 ≠ some g) →
      (listed.getD n true = o1.isSome) → (listed.getD (n + 1) true = o2.isSome) → wpAny P md ops Q' (f + g) listed (putO (putO a d1 o1) d2 o2) w
  | 0, listed, a, h, w, o1, o2, hw, hf1, hf2, hne, hl1, hl2 => by
    rw [Nat.zero_add]
    obtain ⟨e1, e2⟩ := hLd _ _ h
    rw [hl1] at e1
    rw [hl2] at e2
    obtain ⟨g1, rfl⟩ := Option.isSome_iff_exists.1 e1
    obtain ⟨g2, rfl⟩ := Option.isSome_iff_exists.1 e2
    exact hL _ _ h w g1 g2 hw hf1 hf2 (fun e => hne g1 rfl (by rw [e]))
  | f + 1, listed, a, h, w, o1, o2, hw, hf1, hf2, hne, hl1, hl2 => by
    rw [show f + 1 + g = (f + g) + 1 by omega]
    refine ⟨fun h0 => absurd h0 h.1, fun i hi => ?_⟩
    obtain ⟨hin, hq, ha⟩ := h.2 i hi
    have hun := (mem_ready.1 hi).1
    rcases Nat.lt_or_ge i n with hlt | hge
    · have hc := hq hlt
      obtain ⟨_, oj, hoj, _⟩ := mem_ready.1 hi
      obtain ⟨k1, k2, k3, k4, k5⟩ := T.far i oj hlt hoj
      have hex : execOp (putO (putO a d1 o1) d2 o2).eval oj = execOp a.eval oj := (execOp_putO k5 k2).trans (execOp_putO k5 k1)
      have hwt : Region.wanted oj (yielded ops (putO (putO a d1 o1) d2 o2).tmps) = Region.wanted oj (yielded ops a.tmps) := (wanted_putO k2).trans (wanted_putO k1)
      have hput : ∀ v, (putO (putO a d1 o1) d2 o2).put oj.dst v = putO (putO (a.put oj.dst v) d1 o1) d2 o2 := fun v => by rw [putO_put v k3, putO_put v k4]
      have hn1 : (listed.setIfInBounds i true).getD n true = o1.isSome := by rw [getD_set_ne true (by omega)]; exact hl1
      have hn2 : (listed.setIfInBounds i true).getD (n + 1) true = o2.isSome := by rw [getD_set_ne true (by omega)]; exact hl2
      unfold wpOp
      unfold cOp at hc
      simp only [hoj] at hc ⊢
      rw [hwt]
      split
      · rename_i hwd
        simp only [hwd, if_true] at hc
        obtain ⟨v, hv, hK⟩ := hc
        have hv := hv w hw
        refine .inl ?_
        unfold Oper.wp
        unfold Oper.calmAt at hv
        rw [hex]
        generalize (execOp a.eval oj).run P w = r at *
        cases r with
        | ok x w' =>
          cases x <;> simp only [Oper.calmUpon] at hv <;> simp only [Oper.upon]
          case value u =>
            obtain ⟨e1, e2⟩ := hv
            rw [e1, e2, hput]
            exact wpAny_of_G T hLd hL f _ _ hK w o1 o2 hw hf1 hf2 hne hn1 hn2
          case skip =>
            obtain ⟨e1, e2⟩ := hv
            rw [e1, ← e2, hput]
            exact wpAny_of_G T hLd hL f _ _ hK w o1 o2 hw hf1 hf2 hne hn1 hn2
          case enter fn args =>
            obtain ⟨e1, hcl⟩ := hv
            rw [e1]
            refine hcl.mono fun e w'' ⟨he, hw'', hb⟩ => ?_
            subst he
            simp only []
            rw [hput]
            exact wpAny_of_G T hLd hL f _ _ hK w'' o1 o2 hw'' (hf1.below hb) (hf2.below hb) hne hn1 hn2
        | halt x w' => simp only [Oper.calmUpon] at hv
      · rename_i hwd
        simp only [hwd] at hc
        rw [hput]
        exact wpAny_of_G T hLd hL f _ _ hc w o1 o2 hw hf1 hf2 hne hn1 hn2
    · have hK := ha hge
      have hbw : Below w.heap.size w (w.alloc (.cells z1 t1)) := (Below.refl _ _).alloc (Nat.le_refl _) _
      have hbw2 : Below w.heap.size w (w.alloc (.cells z2 t2)) := (Below.refl _ _).alloc (Nat.le_refl _) _
      have hlt0 : i < listed.size := by
        rcases Nat.lt_or_ge i listed.size with h' | h'
        · exact h'
        · simp [Array.getElem?_eq_none h'] at hun
      rcases (show n = i ∨ n + 1 = i by omega) with rfl | rfl
      · obtain ⟨o, ho, hd, hg, hs, hrun⟩ := T.o1
        have hnone : o1 = none := by
          rw [hun] at hl1
          cases o1 with
          | none => rfl
          | some _ => cases hl1
        subst hnone
        unfold wpOp
        simp only [ho]
        rw [if_pos (by simp [Region.wanted, hg])]
        refine .inl ?_
        unfold Oper.wp
        rw [hrun, Oper.upon_value, hd]
        have e : (putO (putO a d1 none) d2 o2).put (some d1) (.pointer (some ⟨w.heap.size, 0, none⟩)) = putO (putO a d1 (some w.heap.size)) d2 o2 :=
          (putO_put (a := a) (d := d2) (o := o2) (x := some d1) _ (by simp [T.ne])).symm
        rw [e]
        refine wpAny_of_G T hLd hL f _ _ hK _ _ _ (T.cls _ _ hw) ⟨Blk.new _ _ _, T.base _ hw⟩ (hf2.below hbw) (fun g hg' hg2 => ?_) (by simp [hlt0]) (by rw [getD_set_ne true (by omega)]; exact hl2)
        cases hg'
        rw [hg2] at hf2
        exact absurd hf2.1.lt (Nat.lt_irrefl _)
      · obtain ⟨o, ho, hd, hg, hs, hrun⟩ := T.o2
        have hnone : o2 = none := by
          rw [hun] at hl2
          cases o2 with
          | none => rfl
          | some _ => cases hl2
        subst hnone
        unfold wpOp
        simp only [ho]
        rw [if_pos (by simp [Region.wanted, hg])]
        refine .inl ?_
        unfold Oper.wp
        rw [hrun, Oper.upon_value, hd]
        have e : (putO (putO a d1 o1) d2 none).put (some d2) (.pointer (some ⟨w.heap.size, 0, none⟩)) = putO (putO a d1 o1) d2 (some w.heap.size) := rfl
        rw [e]
        refine wpAny_of_G T hLd hL f _ _ hK _ _ _ (T.cls _ _ hw) (hf1.below hbw2) ⟨Blk.new _ _ _, T.base _ hw⟩ (fun g hg' hg2 => ?_) (by rw [getD_set_ne true (by omega)]; exact hl1) (by simp [hlt0])
        cases hg2
        rw [hg'] at hf1
        exact absurd hf1.1.lt (Nat.lt_irrefl _)

theorem wpAnyG_firstQ {i : Nat} {oi : Oper} {v : Value} {L : Array Bool → Act → Prop} (hi : ops[i]? = some oi) (hsel : ∀ (j : Nat) (o : Oper) cs b, ops[j]? = some o → o.op ≠ .select cs b)
    (hs : Region.sinkB md ops (n + 2) = true) (hc : Region.chainB md ops (n + 2) = true) (hn : n + 2 < ops.size) (hin : i < n)
    (hdone : ∀ listed a, L listed a → ∀ j ∈ Region.ready md ops listed, n + 2 ≤ j) :
    ∀ (f : Nat) (listed : Array Bool) (a : Act), HeadInv md ops (n + 2) listed →
      (∀ j oj, ops[j]? = some oj → j ≠ i → listed.getD j true = false → (∀ e ∈ oj.after, Region.binds md e = true → e.on ≠ i) → oi.apart ops oj = true) →
      i ∈ Region.ready md ops listed → YieldsC P ops C oi v a →
      wpAnyG P md ops C n L f (listed.setIfInBounds i true) (a.put oi.dst v) → wpAnyG P md ops C n L (f + 1) listed a := by
  intro f
  induction f with
  | zero =>
    intro listed a inv _ hr hy H
    have hun := (mem_ready.1 hr).1
    refine ⟨fun h => (by rw [h] at hr; cases hr), fun j hj => ?_⟩
    have hjn : j < n + 2 := by
      rcases Nat.lt_or_ge j (n + 2) with h | h
      · exact h
      · exact absurd hj (tail_waits hs hc hn inv _ i rfl (by omega) hun j h)
    by_cases hji : j = i
    · subst hji; exact ⟨hjn, fun _ => hy.cOp hi H, fun h => by omega⟩
    · have := hdone _ _ H j (ready_mono hj hji)
      omega
  | succ f ih =>
    intro listed a inv hfree hr hy H
    have hun := (mem_ready.1 hr).1
    refine ⟨fun h => (by rw [h] at hr; cases hr), fun j hj => ?_⟩
    have hjn : j < n + 2 := by
      rcases Nat.lt_or_ge j (n + 2) with h | h
      · exact h
      · exact absurd hj (tail_waits hs hc hn inv _ i rfl (by omega) hun j h)
    by_cases hji : j = i
    · subst hji; exact ⟨hjn, fun _ => hy.cOp hi H, fun h => by omega⟩
    · obtain ⟨hjun, oj, hoj, hall⟩ := mem_ready.1 hj
      have hnot : ∀ e ∈ oj.after, Region.binds md e = true → e.on ≠ i := fun e he hb heq => by
        have h1 := hall e he hb
        rw [heq, getD_both hun] at h1
        cases h1
      have hfree' : ∀ k ok, ops[k]? = some ok → k ≠ i → (listed.setIfInBounds j true).getD k true = false →
          (∀ e ∈ ok.after, Region.binds md e = true → e.on ≠ i) → oi.apart ops ok = true := fun k ok hk hki hun hno => by
        refine hfree k ok hk hki ?_ hno
        by_cases hjk : j = k
        · subst hjk; exact hjun
        · rw [getD_set_ne true hjk] at hun; exact hun
      obtain ⟨_, hq, ha⟩ := H.2 j (ready_mono hj hji)
      refine ⟨hjn, fun hjl => ?_, fun hjg => ?_⟩
      · have h2 := cOp_put hoj (hfree j oj hoj hji hjun hnot) (fun cs b => hsel i oi cs b hi) (fun cs b => hsel j oj cs b hoj) hy (hq hjl)
        refine cOp_mono (fun a' h3 => ih (listed.setIfInBounds j true) a' (inv.set hj hjn) hfree' (ready_mono hr (Ne.symm hji)) h3.1 ?_) h2
        rw [Array.setIfInBounds_comm _ _ hji]
        exact h3.2
      · refine ih (listed.setIfInBounds j true) a (inv.set hj hjn) hfree' (ready_mono hr (Ne.symm hji)) hy ?_
        rw [Array.setIfInBounds_comm _ _ hji]
        exact ha hjg

theorem wpAnyG_firstA {i : Nat} {L : Array Bool → Act → Prop} (hs : Region.sinkB md ops (n + 2) = true) (hc : Region.chainB md ops (n + 2) = true) (hn : n + 2 < ops.size) (hin : i < n + 2) (hge : n ≤ i)
    (hdone : ∀ listed a, L listed a → ∀ j ∈ Region.ready md ops listed, n + 2 ≤ j) :
    ∀ (f : Nat) (listed : Array Bool) (a : Act), HeadInv md ops (n + 2) listed → i ∈ Region.ready md ops listed →
      wpAnyG P md ops C n L f (listed.setIfInBounds i true) a → wpAnyG P md ops C n L (f + 1) listed a := by
  intro f
  induction f with
  | zero =>
    intro listed a inv hr H
    have hun := (mem_ready.1 hr).1
    refine ⟨fun h => (by rw [h] at hr; cases hr), fun j hj => ?_⟩
    have hjn : j < n + 2 := by
      rcases Nat.lt_or_ge j (n + 2) with h | h
      · exact h
      · exact absurd hj (tail_waits hs hc hn inv _ i rfl hin hun j h)
    by_cases hji : j = i
    · subst hji; exact ⟨hjn, fun h => by omega, fun _ => H⟩
    · have := hdone _ _ H j (ready_mono hj hji)
      omega
  | succ f ih =>
    intro listed a inv hr H
    have hun := (mem_ready.1 hr).1
    refine ⟨fun h => (by rw [h] at hr; cases hr), fun j hj => ?_⟩
    have hjn : j < n + 2 := by
      rcases Nat.lt_or_ge j (n + 2) with h | h
      · exact h
      · exact absurd hj (tail_waits hs hc hn inv _ i rfl hin hun j h)
    by_cases hji : j = i
    · subst hji; exact ⟨hjn, fun h => by omega, fun _ => H⟩
    · obtain ⟨_, hq, ha⟩ := H.2 j (ready_mono hj hji)
      refine ⟨hjn, fun hjl => ?_, fun hjg => ?_⟩
      · refine cOp_mono (fun a' h3 => ih (listed.setIfInBounds j true) a' (inv.set hj hjn) (ready_mono hr (Ne.symm hji)) ?_) (hq hjl)
        rw [Array.setIfInBounds_comm _ _ hji]
        exact h3
      · refine ih (listed.setIfInBounds j true) a (inv.set hj hjn) (ready_mono hr (Ne.symm hji)) ?_
        rw [Array.setIfInBounds_comm _ _ hji]
        exact ha hjg

theorem wpAnyG_lex {g : Nat} {Lq : Act → Prop} (hsel : Region.noSelect ops = true) (hs : Region.sinkB md ops (n + 2) = true) (hc : Region.chainB md ops (n + 2) = true) (hn : n + 2 < ops.size) :
    ∀ (l : List Oper) (k : Nat) (listed : Array Bool) (a : Act), (∀ j, j < l.length → l[j]? = ops[k + j]?) → k + l.length = n → HeadInv md ops (n + 2) listed →
    Region.lexHead md ops g (l.length + 2) k listed = true → wpCalm P ops C Lq l a →
    wpAnyG P md ops C n (fun listed' a' => (Region.seqB md ops g (n + 2) listed' = true ∧ listed'.getD n true = true ∧ listed'.getD (n + 1) true = true) ∧ Lq a') (l.length + 2) listed a
  | [], k, listed, a, _, hk, inv, hB, h => by
    have : k = n := by simpa using hk
    subst this
    simp only [List.length_nil, Region.lexHead, Bool.and_eq_true] at hB
    obtain ⟨⟨hr, _⟩, ⟨hr2, _⟩, hB'⟩ := hB
    have hr' : k ∈ Region.ready md ops listed := by simpa using hr
    have hr2' : k + 1 ∈ Region.ready md ops (listed.setIfInBounds k true) := by simpa using hr2
    have hd : ∀ listed' a', ((Region.seqB md ops g (k + 2) listed' = true ∧ listed'.getD k true = true ∧ listed'.getD (k + 1) true = true) ∧ Lq a') → ∀ j ∈ Region.ready md ops listed', k + 2 ≤ j := fun listed' a' hL => seqB_ready' hL.1.1
    have hz : listed.size = ops.size := inv.size
    refine wpAnyG_firstA hs hc hn (by omega) (Nat.le_refl _) hd 1 listed a inv hr' ?_
    refine wpAnyG_firstA hs hc hn (by omega) (by omega) hd 0 _ a (inv.set hr' (by omega)) hr2' ?_
    refine ⟨⟨hB', ?_, ?_⟩, h⟩
    · rw [getD_set_ne true (by omega)]
      simp
    · simp
  | o :: l, k, listed, a, hl, hk, inv, hB, h => by
    have h0 : ops[k]? = some o := by simpa using (hl 0 (by simp)).symm
    simp only [List.length_cons] at hB hk
    rw [show l.length + 1 + 2 = (l.length + 2) + 1 by omega] at hB
    rw [Region.lexHead] at hB
    simp only [Bool.and_eq_true] at hB
    obtain ⟨⟨hr, hf⟩, hB'⟩ := hB
    have hkn : k < n := by omega
    have hr' : k ∈ Region.ready md ops listed := by simpa using hr
    have hst : cOp P ops C k (wpCalm P ops C Lq l) a := by unfold cOp; simp only [h0]; exact h
    obtain ⟨v, hy, hK⟩ := yieldsC_of_cOp h0 hst
    exact wpAnyG_firstQ h0 (Region.noSelect_spec hsel) hs hc hn hkn (fun listed' a' hL => seqB_ready' hL.1.1) (l.length + 2) listed a inv (Region.free_spec h0 hf) hr' hy
      (wpAnyG_lex hsel hs hc hn l (k + 1) _ _ (fun j hj => by have := hl (j + 1) (by simp; omega); simpa [Nat.add_assoc, Nat.add_comm 1 j] using this) (by omega) (inv.set hr' (by omega)) hB' hK)

theorem wp_region_two {id : Nat} {Q : Exit → Act → World → Prop} {a : Act} {w : World} {l : List Oper} (n B d1 d2 : Nat) (t1 t2 : TypeId) (z1 z2 : Array Value) (hm : P.follows .mixedOrders = true) (hB : Region.lexTailB .any l.toArray (n + 2) = true)
    (T : Two P l.toArray C n B d1 d2 t1 t2 z1 z2) (hC : C { w with drawn := w.drawn + 1 })
    (h : wpCalm P l.toArray C (fun a' => ∀ w' g1 g2, C w' → (Blk w' g1 t1 z1 ∧ B ≤ g1) → (Blk w' g2 t2 z2 ∧ B ≤ g2) → g1 ≠ g2 → wpList P l.toArray Q (l.drop (n + 2)) ((a'.put (some d1) (.pointer (some ⟨g1, 0, none⟩))).put (some d2) (.pointer (some ⟨g2, 0, none⟩))) w') (l.take n) a) :
    (Code.region id l.toArray true).wp P Q a w := by
  simp only [Region.lexTailB, Bool.and_eq_true, decide_eq_true_eq] at hB
  obtain ⟨⟨⟨⟨hsel, hn⟩, hs⟩, hc⟩, hlex⟩ := hB
  have hn' : n + 2 < l.length := by simpa using hn
  have htl : (l.take n).length = n := by simp; omega
  have hdl : (l.drop (n + 2)).length = l.toArray.size - (n + 2) := by simp
  have inv0 : HeadInv .any l.toArray (n + 2) (Array.replicate l.toArray.size false) :=
    ⟨by simp, fun j oj _ hl => (by rw [getD_replicate_false] at hl; cases hl), fun t _ ht => getD_in (by simpa using ht) (getD_replicate_false _ _)⟩
  have hl0 : ∀ m, m < l.toArray.size → (Array.replicate l.toArray.size false).getD m true = false := fun m hm => getD_in (by simpa using hm) (getD_replicate_false _ _)
  have H := wpAnyG_lex (md := .any) (g := l.toArray.size - (n + 2)) hsel hs hc hn (l.take n) 0 _ a (fun j hj => by
    have hj' : j < n := by rw [htl] at hj; exact hj
    simp [hj']) (by simpa using htl) inv0 (by rw [htl]; exact hlex) h
  refine wp_region_any hm ?_
  have := wpAny_of_G (Q' := Q) (g := l.toArray.size - (n + 2)) T (fun listed a' hL => hL.1.2) (fun listed a' hL w' g1 g2 hw' f1 f2 hne => by
    have := wpAny_of_seq (md := .any) (Q' := Q) (l.drop (n + 2)) (n + 2) listed _ w' (fun j => by simp [List.getElem?_drop]) (by rw [hdl]; exact hL.1.1) (hL.2 w' g1 g2 hw' f1 f2 hne)
    rwa [hdl] at this) _ _ _ H { w with drawn := w.drawn + 1 } none none hC trivial trivial (fun g h => by cases h) (hl0 n (by omega)) (hl0 (n + 1) (by omega))
  rw [htl, show n + 2 + (l.toArray.size - (n + 2)) = l.toArray.size by omega] at this
  exact this
end
def farB (ops : Array Oper) (n d1 d2 : Nat) : Bool := (List.range n).all fun j => match ops[j]? with
  | some oj => !(oj.looksAt ops).contains d1 && !(oj.looksAt ops).contains d2 && oj.dst != some d1 && oj.dst != some d2
  | none => true
theorem farB_spec {ops : Array Oper} {n d1 d2 : Nat} (h : farB ops n d1 d2 = true) (hs : Region.noSelect ops = true) : ∀ j oj, j < n → ops[j]? = some oj → d1 ∉ oj.looksAt ops ∧ d2 ∉ oj.looksAt ops ∧ oj.dst ≠ some d1 ∧ oj.dst ≠ some d2 ∧ (∀ cs b, oj.op ≠ .select cs b) := by
  intro j oj hj hoj
  have h1 := List.all_eq_true.1 h j (List.mem_range.2 hj)
  simp only [hoj, Bool.and_eq_true, Bool.not_eq_true', bne_iff_ne] at h1
  obtain ⟨⟨⟨h2, h3⟩, h4⟩, h5⟩ := h1
  exact ⟨by simpa using h2, by simpa using h3, h4, h5, fun cs b => Region.noSelect_spec hs j oj cs b hoj⟩

theorem two_below {P : Program} {ops : Array Oper} {w : World} {n d1 d2 : Nat} {t1 t2 : TypeId} {z1 z2 : Array Value}
    (o1 : ∃ o, ops[n]? = some o ∧ o.dst = some d1 ∧ o.guard = none ∧ ∀ (a : Act) w, (execOp a.eval o).run P w = .ok (.value (.pointer (some ⟨w.heap.size, 0, none⟩))) (w.alloc (.cells z1 t1)))
    (o2 : ∃ o, ops[n + 1]? = some o ∧ o.dst = some d2 ∧ o.guard = none ∧ ∀ (a : Act) w, (execOp a.eval o).run P w = .ok (.value (.pointer (some ⟨w.heap.size, 0, none⟩))) (w.alloc (.cells z2 t2)))
    (hne : d1 ≠ d2) (hfar : farB ops n d1 d2 = true) (hs : Region.noSelect ops = true) :
    Two P ops (fun w' => ∃ p : Regrown, w' = grow (redrawn w p.d) p.os) n w.heap.size d1 d2 t1 t2 z1 z2 := by
  obtain ⟨oa, a1, a2, a3, a4⟩ := o1
  obtain ⟨ob, b1, b2, b3, b4⟩ := o2
  refine ⟨⟨oa, a1, a2, a3, fun cs b => Region.noSelect_spec hs _ _ cs b a1, a4⟩, ⟨ob, b1, b2, b3, fun cs b => Region.noSelect_spec hs _ _ cs b b1, b4⟩, hne, farB_spec hfar hs, ?_, ?_⟩
  · rintro _ o ⟨p, rfl⟩
    have hb := below_regrown w p.d p.os
    exact regrown_of_below (hb.alloc hb.size o)
  · rintro _ ⟨p, rfl⟩
    exact (below_regrown w p.d p.os).size

theorem calm_call {P : Program} {f : FuncId} {args : Array Value} {w : World} {d : Nat} {os : Array Obj} {v : Value}
    (h : ∀ W, Below w.heap.size w W → Calls P f args W fun e w' => e = .returned v ∧ Below W.heap.size W w') :
    Calls P f args (grow (redrawn w d) os) fun e w'' => e = .returned v ∧ (∃ p : Regrown, w'' = grow (redrawn w p.d) p.os) ∧ NewOnly (grow (redrawn w d) os) w'' :=
  (h _ (below_regrown w d os)).mono fun _ _ ⟨he, hb⟩ => ⟨he, regrown_of_below ((below_regrown w d os).trans (hb.mono (below_regrown w d os).size)), hb⟩

theorem wp_region_two_below {P : Program} {id : Nat} {Q : Exit → Act → World → Prop} {a : Act} {w : World} {l : List Oper} (n d1 d2 : Nat) (t1 t2 : TypeId) (z1 z2 : Array Value) (hm : P.follows .mixedOrders = true) (hB : Region.lexTailB .any l.toArray (n + 2) = true)
    (o1 : ∃ o, l.toArray[n]? = some o ∧ o.dst = some d1 ∧ o.guard = none ∧ ∀ (a : Act) w, (execOp a.eval o).run P w = .ok (.value (.pointer (some ⟨w.heap.size, 0, none⟩))) (w.alloc (.cells z1 t1)))
    (o2 : ∃ o, l.toArray[n + 1]? = some o ∧ o.dst = some d2 ∧ o.guard = none ∧ ∀ (a : Act) w, (execOp a.eval o).run P w = .ok (.value (.pointer (some ⟨w.heap.size, 0, none⟩))) (w.alloc (.cells z2 t2)))
    (hne : d1 ≠ d2) (hfar : farB l.toArray n d1 d2 = true) (hs : Region.noSelect l.toArray = true)
    (h : wpCalm P l.toArray (fun w' => ∃ p : Regrown, w' = grow (redrawn w p.d) p.os) (fun a' => ∀ w' g1 g2, Below w.heap.size w w' → Blk w' g1 t1 z1 → Blk w' g2 t2 z2 → w.heap.size ≤ g1 → w.heap.size ≤ g2 → g1 ≠ g2 →
      wpList P l.toArray Q (l.drop (n + 2)) ((a'.put (some d1) (.pointer (some ⟨g1, 0, none⟩))).put (some d2) (.pointer (some ⟨g2, 0, none⟩))) w') (l.take n) a) :
    (Code.region id l.toArray true).wp P Q a w := by
  refine wp_region_two (C := fun w' => ∃ p : Regrown, w' = grow (redrawn w p.d) p.os) n w.heap.size d1 d2 t1 t2 z1 z2 hm hB (two_below o1 o2 hne hfar hs) ⟨⟨w.drawn + 1, #[]⟩, by rw [grow_empty]; rfl⟩ ?_
  suffices H : ∀ (ls : List Oper) (a : Act), wpCalm P l.toArray (fun w' => ∃ p : Regrown, w' = grow (redrawn w p.d) p.os) (fun a' => ∀ w' g1 g2, Below w.heap.size w w' → Blk w' g1 t1 z1 → Blk w' g2 t2 z2 → w.heap.size ≤ g1 → w.heap.size ≤ g2 → g1 ≠ g2 →
      wpList P l.toArray Q (l.drop (n + 2)) ((a'.put (some d1) (.pointer (some ⟨g1, 0, none⟩))).put (some d2) (.pointer (some ⟨g2, 0, none⟩))) w') ls a →
      wpCalm P l.toArray (fun w' => ∃ p : Regrown, w' = grow (redrawn w p.d) p.os) (fun a' => ∀ w' g1 g2, (∃ p : Regrown, w' = grow (redrawn w p.d) p.os) → (Blk w' g1 t1 z1 ∧ w.heap.size ≤ g1) → (Blk w' g2 t2 z2 ∧ w.heap.size ≤ g2) → g1 ≠ g2 → wpList P l.toArray Q (l.drop (n + 2)) ((a'.put (some d1) (.pointer (some ⟨g1, 0, none⟩))).put (some d2) (.pointer (some ⟨g2, 0, none⟩))) w') ls a from H _ _ h
  intro ls
  induction ls with
  | nil => rintro a h w' g1 g2 ⟨p, rfl⟩ h1 h2 hne; exact h _ g1 g2 (below_regrown w p.d p.os) h1.1 h2.1 h1.2 h2.2 hne
  | cons o ls ih =>
    intro a h
    unfold wpCalm at h ⊢
    split
    · rename_i hw
      rw [if_pos hw] at h
      obtain ⟨v, h1, h2⟩ := h
      exact ⟨v, h1, ih _ h2⟩
    · rename_i hw
      rw [if_neg hw] at h
      exact ih _ h
end Go.Proofs.Ytjcadgklamhohaa
