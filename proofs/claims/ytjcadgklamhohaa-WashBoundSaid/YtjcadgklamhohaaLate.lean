/- An operation that only takes a part of what a call returned may come behind a store: the order makes no difference. -/
import Derived.Test.YtjcadgklamhohaaTwo
import Derived.Laws.Sem
namespace Go.Proofs.Ytjcadgklamhohaa
open Go.RowKit Go.Sort

section
variable {P : Program} {Q : Exit → Act → World → Prop}

/-- it never panics -/
def NoPanic {α : Type} (P : Program) (s : Sem α) : Prop := ∀ w v w', s.run P w ≠ .halt (.panic v) w'
theorem NoPanic.pure {α : Type} (x : α) : NoPanic P (Pure.pure x : Sem α) := by
  intro w v w' h; cases h
theorem NoPanic.stuck {α : Type} (m : String) : NoPanic P (Go.stuck m : Sem α) := by
  intro w v w' h; cases h
theorem NoPanic.bind {α β : Type} {s : Sem α} {f : α → Sem β} (h1 : NoPanic P s) (h2 : ∀ x, NoPanic P (f x)) : NoPanic P (s >>= f) := by
  intro w v w' h
  rw [Sem.run_bind] at h
  cases hs : s.run P w with
  | ok x w1 => rw [hs] at h; exact h2 x w1 v w' h
  | halt e w1 =>
    rw [hs] at h
    cases h
    exact h1 w v w' hs
theorem NoPanic.program : NoPanic P program := by intro w v w' h; cases h
theorem NoPanic.typeInfo (t : TypeId) : NoPanic P (typeInfo t) := by
  unfold Go.typeInfo
  refine NoPanic.program.bind fun p => ?_
  split
  · exact NoPanic.pure _
  · exact NoPanic.stuck _
theorem NoPanic.store (a : Addr) (v : Value) : NoPanic P (store a v) := by
  intro w u w' h
  unfold Go.store at h
  cases v <;> simp only [Sem.run] at h <;> (try (cases h; done)) <;> (
    split at h
    · split at h <;> cases h
    · split at h
      · cases h
      · rename_i e he
        cases h
        unfold World.farStore at he
        split at he
        · split at he <;> cases he
        · unfold World.noCell at he
          split at he <;> cases he)
theorem NoPanic.storeCells (a : Addr) : ∀ (vs : List Value) (i : Nat), NoPanic P (storeCells a vs i)
  | [], _ => NoPanic.pure _
  | v :: vs, i => by
    unfold Go.storeCells
    exact (NoPanic.store _ _).bind fun _ => NoPanic.storeCells a vs (i + 1)
theorem NoPanic.storeAt (t : TypeId) (x y : Value) : NoPanic P (Instr.storeAt t x y) := by
  unfold Instr.storeAt
  refine NoPanic.bind ?_ fun a => ?_
  · unfold Instr.sureAddr
    split
    · exact NoPanic.pure _
    · exact NoPanic.stuck _
  · unfold storeVar
    refine NoPanic.bind ?_ fun s => ?_
    · unfold sizeOf
      exact (NoPanic.typeInfo t).bind fun _ => NoPanic.pure _
    · split
      · exact (NoPanic.stuck _).bind fun _ => NoPanic.storeCells _ _ _
      · exact NoPanic.storeCells _ _ _

def tieO (q : Nat) (o : Oper) : Oper := { o with after := o.after.push ⟨q, .phase⟩ }
def tie (ops : Array Oper) (p q : Nat) : Array Oper := ops.modify p (tieO q)
variable {ops : Array Oper} {p q : Nat}
theorem tie_self {o : Oper} (h : ops[p]? = some o) : (tie ops p q)[p]? = some (tieO q o) := by simp [tie, Array.getElem?_modify, h]
theorem tie_none (h : ops[p]? = none) : (tie ops p q)[p]? = none := by simp [tie, Array.getElem?_modify, h]
theorem tie_ne {i : Nat} (h : i ≠ p) : (tie ops p q)[i]? = ops[i]? := by simp [tie, Array.getElem?_modify, Ne.symm h]
theorem tie_yielded : yielded (tie ops p q) = yielded ops := by
  funext t j
  unfold yielded
  by_cases h : j = p
  · subst h
    cases ho : ops[j]? with
    | none => rw [tie_none ho]
    | some o => rw [tie_self ho]; rfl
  · rw [tie_ne h]
theorem wpOp_tie {i : Nat} {K : Act → World → Prop} {a : Act} {w : World} : wpOp P (tie ops p q) Q i K a w = wpOp P ops Q i K a w := by
  unfold wpOp
  rw [tie_yielded]
  by_cases h : i = p
  · subst h
    cases ho : ops[i]? with
    | none => rw [tie_none ho]
    | some o => rw [tie_self ho]; rfl
  · rw [tie_ne h]

def lateB (ops : Array Oper) (p q : Nat) : Bool := match ops[p]?, ops[q]? with
  | some op, some oq =>
    (match op.op with | .store .. => true | _ => false) && op.dst.isNone && op.guard.isNone && (match oq.op with | .extract .. => true | _ => false) && oq.guard.isNone &&
    (match oq.dst with | some d => !(op.looksAt ops).contains d | none => true) && p != q &&
    oq.after.all (fun e => !Region.binds .any e || op.after.any (fun e' => Region.binds .any e' && e'.on == e.on)) &&
    (List.range ops.size).all (fun j => j == p || j == q || op.after.any (fun e => Region.binds .any e && e.on == j) || (match ops[j]? with | some oj => oj.after.any (fun e => Region.binds .any e && e.on == q) | none => true))
  | _, _ => false

theorem extract_cases {oq : Oper} (h : ∃ t k, oq.op = .extract t k) (a : Act) : (∃ v, ∀ w, (execOp a.eval oq).run P w = .ok (.value v) w) ∨ (∀ w, ∃ m, (execOp a.eval oq).run P w = .halt (.stuck m) w) := by
  obtain ⟨t, k, h⟩ := h
  unfold execOp
  rw [h]
  simp only [Instr.extract]
  split
  · split
    · exact .inl ⟨_, fun w => rfl⟩
    · exact .inr fun w => ⟨_, rfl⟩
  · exact .inr fun w => ⟨_, rfl⟩
theorem extract_asks {oq : Oper} (h : ∃ t k, oq.op = .extract t k) (a : Act) (w : World) : ¬ oq.asks P a w := by
  obtain ⟨t, k, h⟩ := h
  rintro ⟨h1, _⟩
  unfold execOp at h1
  rw [h] at h1
  simp only [Instr.extract] at h1
  split at h1
  · split at h1
    · (change noRoomEvent ∈ (#[] : Array Event) at h1; simp at h1)
    · (change noRoomEvent ∈ (#[] : Array Event) at h1; simp at h1)
  · (change noRoomEvent ∈ (#[] : Array Event) at h1; simp at h1)
theorem store_cases {op : Oper} (h : ∃ t x y, op.op = .store t x y) (a : Act) (w : World) : (∃ w', (execOp a.eval op).run P w = .ok .skip w') ∨ (∃ e w', (execOp a.eval op).run P w = .halt e w' ∧ ∀ v, e ≠ .panic v) := by
  obtain ⟨t, x, y, h⟩ := h
  unfold execOp
  rw [h]
  simp only [Sem.run_bind]
  cases hs : (Instr.storeAt t (a.eval x) (a.eval y)).run P w with
  | ok u w' => exact .inl ⟨w', rfl⟩
  | halt e w' => exact .inr ⟨e, w', rfl, fun v he => NoPanic.storeAt (P := P) t (a.eval x) (a.eval y) w v w' (by rw [hs, he])⟩

structure Late (ops : Array Oper) (p q : Nat) (op oq : Oper) : Prop where
  hp : ops[p]? = some op
  hq : ops[q]? = some oq
  st : ∃ t x y, op.op = .store t x y
  dst : op.dst = none
  gp : op.guard = none
  ex : ∃ t k, oq.op = .extract t k
  gq : oq.guard = none
  far : ∀ d, oq.dst = some d → d ∉ op.looksAt ops
  ne : p ≠ q
  sub : ∀ e ∈ oq.after, Region.binds .any e = true → ∃ e' ∈ op.after, Region.binds .any e' = true ∧ e'.on = e.on
  all : ∀ j oj, ops[j]? = some oj → j = p ∨ j = q ∨ (∃ e ∈ op.after, Region.binds .any e = true ∧ e.on = j) ∨ (∃ e ∈ oj.after, Region.binds .any e = true ∧ e.on = q)
theorem late_of (h : lateB ops p q = true) : ∃ op oq, Late ops p q op oq := by
  unfold lateB at h
  split at h
  · rename_i op oq hp hq
    simp only [Bool.and_eq_true] at h
    obtain ⟨⟨⟨⟨⟨⟨⟨⟨h1, h2⟩, h3⟩, h4⟩, h5⟩, h6⟩, h7⟩, h8⟩, h9⟩ := h
    refine ⟨op, oq, hp, hq, ?_, by simpa using h2, by simpa using h3, ?_, by simpa using h5, ?_, by simpa using h7, ?_, ?_⟩
    · split at h1
      · rename_i t x y e; exact ⟨t, x, y, e⟩
      · cases h1
    · split at h4
      · rename_i t k e; exact ⟨t, k, e⟩
      · cases h4
    · intro d hd
      rw [hd] at h6
      simpa using h6
    · intro e he hb
      have := Array.all_eq_true'.1 h8 e he
      simp only [hb, Bool.not_true, Bool.false_or, Array.any_eq_true', Bool.and_eq_true, beq_iff_eq] at this
      obtain ⟨e', h10, h11, h12⟩ := this
      exact ⟨e', h10, h11, h12⟩
    · intro j oj hj
      have hlt : j < ops.size := (Array.getElem?_eq_some_iff.1 hj).1
      have := List.all_eq_true.1 h9 j (List.mem_range.2 hlt)
      simp only [hj, Bool.or_eq_true, beq_iff_eq, Array.any_eq_true', Bool.and_eq_true] at this
      rcases this with ((h | h) | ⟨e, h10, h11, h12⟩) | ⟨e, h10, h11, h12⟩
      · exact .inl h
      · exact .inr (.inl h)
      · exact .inr (.inr (.inl ⟨e, h10, h11, h12⟩))
      · exact .inr (.inr (.inr ⟨e, h10, h11, h12⟩))
  · cases h

theorem ready_tie {op oq : Oper} (L : Late ops p q op oq) {listed : Array Bool} {i : Nat} (hz : listed.size = ops.size) (hi : i ∈ Region.ready .any ops listed) :
    i ∈ Region.ready .any (tie ops p q) listed ∨ (i = p ∧ listed.getD q true = false ∧ q ∈ Region.ready .any (tie ops p q) listed) := by
  obtain ⟨h0, o, ho, hall⟩ := mem_ready.1 hi
  by_cases h : i = p
  · subst h
    rw [L.hp] at ho
    cases ho
    by_cases hq : listed.getD q false = true
    · refine .inl (mem_ready.2 ⟨h0, _, tie_self L.hp, fun e he hb => ?_⟩)
      unfold tieO at he
      rcases Array.mem_push.1 he with h1 | rfl
      · exact hall e h1 hb
      · exact hq
    · have hlt : listed.getD q true = false := by
        have hz : q < listed.size := by rw [hz]; exact (Array.getElem?_eq_some_iff.1 L.hq).1
        simp [hz] at hq ⊢; exact hq
      refine .inr ⟨rfl, hlt, mem_ready.2 ⟨hlt, _, (tie_ne (Ne.symm L.ne)).trans L.hq, fun e he hb => ?_⟩⟩
      obtain ⟨e', h1, h2, h3⟩ := L.sub e he hb
      rw [← h3]
      exact hall e' h1 h2
  · exact .inl (mem_ready.2 ⟨h0, o, (tie_ne h).trans ho, hall⟩)
theorem ready_untie {listed : Array Bool} {i : Nat} (hi : i ∈ Region.ready .any (tie ops p q) listed) : i ∈ Region.ready .any ops listed := by
  obtain ⟨h0, o, ho, hall⟩ := mem_ready.1 hi
  by_cases h : i = p
  · subst h
    cases hp : ops[i]? with
    | none => rw [tie_none hp] at ho; cases ho
    | some o' =>
      rw [tie_self hp] at ho
      cases ho
      exact mem_ready.2 ⟨h0, o', hp, fun e he hb => hall e (by unfold tieO; exact Array.mem_push_of_mem _ he) hb⟩
  · rw [tie_ne h] at ho
    exact mem_ready.2 ⟨h0, o, ho, hall⟩

theorem wpAny_untie {op oq : Oper} (L : Late ops p q op oq) : ∀ (f : Nat) (listed : Array Bool) (a : Act) (w : World), listed.size = ops.size → wpAny P .any (tie ops p q) Q f listed a w → wpAny P .any ops Q f listed a w
  | 0, listed, a, w, hz, h => by
    refine ⟨?_, h.2⟩
    rw [List.eq_nil_iff_forall_not_mem]
    intro i hi
    rcases ready_tie L hz hi with h1 | ⟨_, _, h1⟩ <;> · rw [h.1] at h1; cases h1
  | f + 1, listed, a, w, hz, h => by
    have hqs : q < listed.size := by rw [hz]; exact (Array.getElem?_eq_some_iff.1 L.hq).1
    have hps : p < listed.size := by rw [hz]; exact (Array.getElem?_eq_some_iff.1 L.hp).1
    refine ⟨fun h0 => h.1 ?_, fun i hi => ?_⟩
    · rw [List.eq_nil_iff_forall_not_mem]
      intro i hi
      have := ready_untie hi
      rw [h0] at this
      cases this
    · rcases ready_tie L hz hi with h1 | ⟨hip, hun, hq'⟩
      · have h2 := h.2 i h1
        rw [wpOp_tie] at h2
        exact wpOp_mono (fun a w => wpAny_untie L f _ a w (by simpa using hz)) h2
      · have hip' := hip.symm
        subst hip'
        have h2 := h.2 q hq'
        rw [wpOp_tie] at h2
        unfold wpOp at h2
        simp only [L.hq] at h2
        rw [if_pos (by simp [Region.wanted, L.gq])] at h2
        rcases h2 with h2 | ⟨h2, _⟩
        · unfold Oper.wp at h2
          rcases extract_cases (P := P) L.ex a with ⟨v, hv⟩ | hv
          · rw [hv, Oper.upon_value] at h2
            have hp' : p ∈ Region.ready .any (tie ops p q) (listed.setIfInBounds q true) := by
              obtain ⟨h0, o, ho, hall⟩ := mem_ready.1 hi
              rw [L.hp] at ho
              cases ho
              refine mem_ready.2 ⟨by rw [getD_set_ne true (Ne.symm L.ne)]; exact h0, _, tie_self L.hp, fun e he hb => ?_⟩
              unfold tieO at he
              rcases Array.mem_push.1 he with h1 | rfl
              · exact getD_set_true (hall e h1 hb)
              · simp [hqs]
            cases f with
            | zero => exact absurd h2.1 (fun h0 => by rw [h0] at hp'; cases hp')
            | succ f =>
              have h3 := h2.2 p hp'
              rw [wpOp_tie] at h3
              unfold wpOp at h3 ⊢
              simp only [L.hp] at h3 ⊢
              have hex : execOp (a.put oq.dst v).eval op = execOp a.eval op := by
                obtain ⟨t, x, y, hst⟩ := L.st
                exact execOp_put (ops := ops) op (by rw [hst]; intro cs b hh; cases hh) a oq.dst v L.far
              rw [if_pos (by simp [Region.wanted, L.gp])] at h3 ⊢
              rcases h3 with h3 | ⟨h3, hlet⟩
              · refine .inl ?_
                unfold Oper.wp at h3 ⊢
                rw [hex] at h3
                rcases store_cases (P := P) L.st a w with ⟨w', hr⟩ | ⟨e, w', hr, hne⟩
                · rw [hr] at h3 ⊢
                  rw [Oper.upon_skip] at h3 ⊢
                  rw [L.dst] at h3 ⊢
                  change wpAny P .any (tie ops p q) Q f _ (a.put oq.dst v) w' at h3
                  change wpAny P .any ops Q (f + 1) (listed.setIfInBounds p true) a w'
                  have hqr : q ∈ Region.ready .any ops (listed.setIfInBounds p true) := by
                    have := ready_mono (ready_untie hq') (Ne.symm L.ne)
                    exact this
                  refine ⟨fun h0 => absurd hqr (by rw [h0]; simp), fun j hj => ?_⟩
                  have hjq : j = q := by
                    obtain ⟨k0, oj, koj, kall⟩ := mem_ready.1 hj
                    have hji : j ≠ p := by
                      rintro rfl
                      simp [hps] at k0
                    have k1 : listed.getD j true = false := by rw [getD_set_ne true (Ne.symm hji)] at k0; exact k0
                    rcases L.all j oj koj with h | h | ⟨e, he, hb, rfl⟩ | ⟨e, he, hb, heq⟩
                    · exact absurd h hji
                    · exact h
                    · obtain ⟨_, o, ho, hall⟩ := mem_ready.1 hi
                      rw [L.hp] at ho
                      cases ho
                      have := hall e he hb
                      rw [getD_both k1] at this
                      cases this
                    · have := kall e he hb
                      rw [heq, getD_set_ne false L.ne, getD_both hun] at this
                      cases this
                  have hjq' := hjq.symm
                  subst hjq'
                  unfold wpOp
                  simp only [L.hq]
                  rw [if_pos (by simp [Region.wanted, L.gq])]
                  refine .inl ?_
                  unfold Oper.wp
                  rw [hv, Oper.upon_value, Array.setIfInBounds_comm _ _ L.ne]
                  exact wpAny_untie L f _ _ w' (by simpa using hz) h3
                · rw [hr] at h3
                  cases e with
                  | panic v => exact absurd rfl (hne v)
                  | _ => simp only [Oper.upon] at h3
              · refine .inr ⟨?_, hlet⟩
                unfold Oper.asks at h3 ⊢
                rwa [hex] at h3
          · obtain ⟨m, hm⟩ := hv w
            rw [hm] at h2
            simp only [Oper.upon] at h2
        · exact absurd h2 (extract_asks L.ex a w)

theorem wpCalm_tie {C : World → Prop} {R : Act → Prop} : ∀ (ls : List Oper) (a : Act), wpCalm P ops C R ls a → wpCalm P (tie ops p q) C R ls a
  | [], a, h => h
  | o :: ls, a, h => by
    unfold wpCalm at h ⊢
    rw [tie_yielded]
    split
    · rename_i hw
      rw [if_pos hw] at h
      obtain ⟨v, h1, h2⟩ := h
      exact ⟨v, h1, wpCalm_tie ls _ h2⟩
    · rename_i hw
      rw [if_neg hw] at h
      exact wpCalm_tie ls _ h
theorem wpCalm_mono {C : World → Prop} {R R' : Act → Prop} (hR : ∀ a, R a → R' a) : ∀ (ls : List Oper) (a : Act), wpCalm P ops C R ls a → wpCalm P ops C R' ls a
  | [], a, h => hR a h
  | o :: ls, a, h => by
    unfold wpCalm at h ⊢
    split
    · rename_i hw
      rw [if_pos hw] at h
      obtain ⟨v, h1, h2⟩ := h
      exact ⟨v, h1, wpCalm_mono hR ls _ h2⟩
    · rename_i hw
      rw [if_neg hw] at h
      exact wpCalm_mono hR ls _ h
theorem wpList_tie : ∀ (ls : List Oper) (a : Act) (w : World), wpList P ops Q ls a w → wpList P (tie ops p q) Q ls a w
  | [], a, w, h => h
  | o :: ls, a, w, h => by
    unfold wpList at h ⊢
    rw [tie_yielded]
    split
    · rename_i hw
      rw [if_pos hw] at h
      exact h.imp (Oper.wp_mono fun a w => wpList_tie ls a w) id
    · rename_i hw
      rw [if_neg hw] at h
      exact wpList_tie ls _ _ h
theorem wpList_tieO {o : Oper} {ls : List Oper} {a : Act} {w : World} (h : wpList P ops Q (o :: ls) a w) : wpList P ops Q (tieO q o :: ls) a w := h
end

section
theorem wpAny_two {P : Program} {C : World → Prop} {Q : Exit → Act → World → Prop} {a : Act} {w : World} {l : List Oper} (n B d1 d2 : Nat) (t1 t2 : TypeId) (z1 z2 : Array Value) (hB : Region.lexTailB .any l.toArray (n + 2) = true)
    (T : Two P l.toArray C n B d1 d2 t1 t2 z1 z2) (hC : C { w with drawn := w.drawn + 1 })
    (h : wpCalm P l.toArray C (fun a' => ∀ w' g1 g2, C w' → (Blk w' g1 t1 z1 ∧ B ≤ g1) → (Blk w' g2 t2 z2 ∧ B ≤ g2) → g1 ≠ g2 → wpList P l.toArray Q (l.drop (n + 2)) ((a'.put (some d1) (.pointer (some ⟨g1, 0, none⟩))).put (some d2) (.pointer (some ⟨g2, 0, none⟩))) w') (l.take n) a) :
    wpAny P .any l.toArray Q l.toArray.size (Array.replicate l.toArray.size false) a { w with drawn := w.drawn + 1 } := by
  simp only [Region.lexTailB, Bool.and_eq_true, decide_eq_true_eq] at hB
  obtain ⟨⟨⟨⟨hsel, hn⟩, hs⟩, hc⟩, hlex⟩ := hB
  have hn' : n + 2 < l.length := by simpa using hn
  have htl : (l.take n).length = n := by simp; omega
  have hdl : (l.drop (n + 2)).length = l.toArray.size - (n + 2) := by simp
  have inv0 : HeadInv .any l.toArray (n + 2) (Array.replicate l.toArray.size false) :=
    ⟨by simp, fun j oj _ hl => (by rw [getD_replicate_false] at hl; cases hl), fun t _ ht => getD_in (by simpa using ht) (getD_replicate_false _ _)⟩
  have hl0 : ∀ m, m < l.toArray.size → (Array.replicate l.toArray.size false).getD m true = false := fun m hm => getD_in (by simpa using hm) (getD_replicate_false _ _)
  have H := wpAnyG_lex (md := .any) (g := l.toArray.size - (n + 2)) hsel hs hc hn (l.take n) 0 _ a (fun j hj => by
    have hj' : j < n := by rw [htl] at hj; exact hj
    simp [hj']) (by simpa using htl) inv0 (by rw [htl]; exact hlex) h
  have := wpAny_of_G (Q' := Q) (g := l.toArray.size - (n + 2)) T (fun listed a' hL => hL.1.2) (fun listed a' hL w' g1 g2 hw' f1 f2 hne => by
    have := wpAny_of_seq (md := .any) (Q' := Q) (l.drop (n + 2)) (n + 2) listed _ w' (fun j => by simp [List.getElem?_drop]) (by rw [hdl]; exact hL.1.1) (hL.2 w' g1 g2 hw' f1 f2 hne)
    rwa [hdl] at this) _ _ _ H { w with drawn := w.drawn + 1 } none none hC trivial trivial (fun g h => by cases h) (hl0 n (by omega)) (hl0 (n + 1) (by omega))
  rw [htl, show n + 2 + (l.toArray.size - (n + 2)) = l.toArray.size by omega] at this
  exact this
end

theorem wp_region_two_late {P : Program} {id : Nat} {Q : Exit → Act → World → Prop} {a : Act} {w : World} {l : List Oper} (n q d1 d2 : Nat) (t1 t2 : TypeId) (z1 z2 : Array Value) (hm : P.follows .mixedOrders = true) (hB : Region.lexTailB .any (tie l.toArray (n + 2) q) (n + 2) = true) (hL : lateB l.toArray (n + 2) q = true)
    (o1 : ∃ o, l.toArray[n]? = some o ∧ o.dst = some d1 ∧ o.guard = none ∧ ∀ (a : Act) w, (execOp a.eval o).run P w = .ok (.value (.pointer (some ⟨w.heap.size, 0, none⟩))) (w.alloc (.cells z1 t1)))
    (o2 : ∃ o, l.toArray[n + 1]? = some o ∧ o.dst = some d2 ∧ o.guard = none ∧ ∀ (a : Act) w, (execOp a.eval o).run P w = .ok (.value (.pointer (some ⟨w.heap.size, 0, none⟩))) (w.alloc (.cells z2 t2)))
    (hne : d1 ≠ d2) (hfar : farB (tie l.toArray (n + 2) q) n d1 d2 = true) (hs : Region.noSelect (tie l.toArray (n + 2) q) = true)
    (h : wpCalm P l.toArray (fun w' => ∃ p : Regrown, w' = grow (redrawn w p.d) p.os) (fun a' => ∀ w' g1 g2, Below w.heap.size w w' → Blk w' g1 t1 z1 → Blk w' g2 t2 z2 → w.heap.size ≤ g1 → w.heap.size ≤ g2 → g1 ≠ g2 →
      wpList P l.toArray Q (l.drop (n + 2)) ((a'.put (some d1) (.pointer (some ⟨g1, 0, none⟩))).put (some d2) (.pointer (some ⟨g2, 0, none⟩))) w') (l.take n) a) :
    (Code.region id l.toArray true).wp P Q a w := by
  obtain ⟨op, oq, L⟩ := late_of hL
  have hlt : n + 2 < l.length := by simpa using (Array.getElem?_eq_some_iff.1 L.hp).1
  refine wp_region_any hm (wpAny_untie L _ _ _ _ (by simp) ?_)
  have e : tie l.toArray (n + 2) q = (l.modify (n + 2) (tieO q)).toArray := by
    apply Array.ext_getElem?
    intro i
    simp [tie, List.getElem?_modify]
  have et : (l.modify (n + 2) (tieO q)).take n = l.take n := by
    apply List.ext_getElem?
    intro i
    simp only [List.getElem?_take, List.getElem?_modify]
    split
    · cases l[i]? with
      | none => rfl
      | some o => simp only [Option.map_eq_map, Option.map_some]; rw [if_neg (by omega)]
    · rfl
  have ed : (l.modify (n + 2) (tieO q)).drop (n + 2) = tieO q (l[n + 2]) :: l.drop (n + 3) := by
    rw [List.drop_eq_getElem_cons (by simpa using hlt)]
    congr 1
    · simp
    · apply List.ext_getElem?
      intro i
      simp only [List.getElem?_drop, List.getElem?_modify, show n + 2 + 1 + i = n + 3 + i by omega]
      cases l[n + 3 + i]? with
      | none => rfl
      | some o => simp only [Option.map_eq_map, Option.map_some]; rw [if_neg (by omega)]
  have hz : l.toArray.size = (l.modify (n + 2) (tieO q)).toArray.size := by simp
  rw [e] at hB hfar hs ⊢
  rw [hz]
  refine wpAny_two (P := P) (Q := Q) (C := fun w' => ∃ p : Regrown, w' = grow (redrawn w p.d) p.os) n w.heap.size d1 d2 t1 t2 z1 z2 hB (two_below ?_ ?_ hne hfar hs) ⟨⟨w.drawn + 1, #[]⟩, by rw [grow_empty]; rfl⟩ ?_
  · rw [← e, tie_ne (by omega)]; exact o1
  · rw [← e, tie_ne (by omega)]; exact o2
  · rw [et, ← e]
    refine wpCalm_tie _ _ (wpCalm_mono (fun a' ha => ?_) _ _ h)
    rintro w' g1 g2 ⟨p, rfl⟩ h1 h2 hne'
    have h3 := ha _ g1 g2 (below_regrown w p.d p.os) h1.1 h2.1 h1.2 h2.2 hne'
    rw [ed]
    refine wpList_tie _ _ _ (wpList_tieO ?_)
    rwa [List.drop_eq_getElem_cons hlt] at h3
end Go.Proofs.Ytjcadgklamhohaa
