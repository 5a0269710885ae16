/- Steps of a region that draws, one by one, with what its first load found kept in sight. -/
import Derived.OrdersHeld
import Derived.Test.YtlcccomdijdkaaaSyGrow
namespace Go.Proofs.Ytlcccomdijdkaaa
open Go.RowKit

variable {P : Program} {X : Ctx} {E : Env} {a : Act} {w : World} {st : SState} {Q : Exit → Act → World → Prop}

theorem Oper.wp_track {o : Oper} {K : Act → World → Prop} (h : o.wp P a w (fun a' w' => (∃ v, a'.tmps = (a.put o.dst v).tmps) → K a' w') Q) : o.wp P a w K Q := by
  unfold Oper.wp at *
  generalize (execOp a.eval o).run P w = r at *
  cases r with
  | ok n w' =>
    cases n <;> simp only [Oper.upon] at h ⊢
    all_goals first
      | exact h ⟨_, rfl⟩
      | exact h ⟨undef, by cases o.dst <;> rfl⟩
      | exact Calls.mono h (fun e w'' he => by cases e <;> first | exact he ⟨_, rfl⟩ | exact he)
      | exact Rows.mono h (fun _ _ he => he ⟨_, rfl⟩)
      | exact h
  | halt x w' => cases x <;> simp only [Oper.upon] at h ⊢ <;> exact h
theorem Oper.wp_sides {o : Oper} {K : Act → World → Prop} {Q' : Exit → Act → World → Prop} (hQ : ∀ e a w, e ≠ .normal → Q' e a w → Q e a w) (h : o.wp P a w K Q') : o.wp P a w K Q := by
  unfold Oper.wp at *
  generalize (execOp a.eval o).run P w = r at *
  cases r with
  | ok n w' =>
    cases n <;> simp only [Oper.upon] at h ⊢
    all_goals first
      | exact h
      | exact Calls.mono h (fun e w'' he => by
          cases e
          · exact he
          · exact hQ _ _ _ (by simp) he
          · obtain ⟨a1, w1, h1⟩ := he; exact ⟨a1, w1, hQ _ _ _ (by simp) h1⟩)
  | halt x w' =>
    cases x <;> simp only [Oper.upon] at h ⊢
    all_goals first
      | exact hQ _ _ _ (by simp) h
      | exact h
theorem wpOp_item {ops : List Oper} {i : Nat} {o : Oper} {K : Act → World → Prop} (ho : ops[i]? = some o) (hg : o.guard = none) (h : o.wp P a w (fun a' w' => (∃ v, a'.tmps = (a.put o.dst v).tmps) → K a' w') Q) : wpOp P ops.toArray Q i K a w := by
  unfold wpOp
  simp only [List.getElem?_toArray, ho]
  rw [if_pos (by simp [Region.wanted, hg])]
  exact .inl (Oper.wp_track h)
theorem wpOp_item2 {ops : List Oper} {i : Nat} {o : Oper} {K : Act → World → Prop} (ho : ops[i]? = some o) (hg : o.guard = none) (h : if Region.wanted o (yielded ops.toArray a.tmps) then o.wp P a w (fun a' w' => (∃ v, a'.tmps = (a.put o.dst v).tmps) → K a' w') Q else ((∃ v, (a.put o.dst undef).tmps = (a.put o.dst v).tmps) → K (a.put o.dst undef) w)) : wpOp P ops.toArray Q i K a w := by
  rw [if_pos (by simp [Region.wanted, hg])] at h
  exact wpOp_item ho hg h
theorem wpOp_list {ops : List Oper} {i : Nat} {o : Oper} {K : Act → World → Prop} (ho : ops[i]? = some o) (hg : o.guard = none) 
    (h : wpList P ops.toArray (fun e a' w' => match e with | .normal => (∃ v, a'.tmps = (a.put o.dst v).tmps) → K a' w' | e => Q e a' w') [o] a w) : wpOp P ops.toArray Q i K a w := by
  unfold wpList at h
  rw [if_pos (by simp [Region.wanted, hg])] at h
  rcases h with h | ⟨h1, h2⟩
  · refine wpOp_item ho hg (Oper.wp_sides ?_ (Oper.wp_mono (K' := fun a' w' => (∃ v, a'.tmps = (a.put o.dst v).tmps) → K a' w') (fun a' w' hh => hh) h))
    intro e a' w' hne hq
    cases e <;> first | exact absurd rfl hne | exact hq
  · obtain ⟨a1, w1, h3⟩ := h2
    unfold wpOp
    simp only [List.getElem?_toArray, ho]
    rw [if_pos (by simp [Region.wanted, hg])]
    exact .inr ⟨h1, a1, w1, h3⟩
/-- where a block is, by a slot that has not turned -/
theorem St.at_slot (S : St X st E a w) {t g b : Nat} (hs : look st.slots t = some (.own g 0)) (ht : a.tmps[t]? = some (.pointer (some ⟨b, 0, none⟩))) : E.ρ g = b := by
  have := S.slot t _ hs
  rw [ht] at this
  simp only [SV.val, Option.some.injEq, Value.pointer.injEq, Addr.mk.injEq, and_true] at this
  exact this.symm
theorem tmps_put {a a' : Act} {d t : Nat} {x : Value} (h : ∃ v, a'.tmps = (a.put (some d) v).tmps) (hd : d ≠ t) (ht : a.tmps[t]? = some x) : a'.tmps[t]? = some x := by
  obtain ⟨v, e⟩ := h
  rw [e]
  simp only [Act.put]
  rw [Array.getElem?_setIfInBounds_ne hd]
  exact ht
theorem wpOp_eval {lay : Lay} (hl : LayOK P lay) {ops : List Oper} {i : Nat} {o : Oper} {K : Act → World → Prop} (ho : ops[i]? = some o) (hg : o.guard = none) (h : Hint) (x : TI) (obs : List Ob) (hi : itemOf lay ops st o h = some (x, obs)) (hob : AllOb P X.w0.heap.size obs) (S : St X st E a w) (hd : ∀ d, o.dst = some d → d < X.n)
    (kk : ∀ E' a' w', St X (applyTI st x) E' a' w' → (∃ v, a'.tmps = (a.put o.dst v).tmps) → K a' w') : wpOp P ops.toArray Q i K a w := by
  obtain ⟨n1, n2, n3⟩ := itemOf_new hi
  refine wpOp_item2 ho hg (item_sound hl hi hob S (fun _ _ => rfl) (fun _ _ => rfl) (fun g y h1 h2 => ?_) (fun g y h1 h2 => n3 g y h1 h2) hd (fun E' a' w' S' => kk E' a' w' ?_))
  · obtain ⟨f1, f2⟩ := n2 g y h1 h2
    exact ⟨(freshBl_ok f2).1, freshS_ok f1, (freshBl_ok f2).2⟩
  · unfold St
    rw [applyTI_slots, applyTI_blks, (applyTI_rest st x).1, (applyTI_rest st x).2]
    exact S'
theorem run_ldArr {lay : Lay} (hl : LayOK P lay) {t b T : Nat} {L : List Int} {d : TyD} (ht : look lay t = some d) (hk : isAggT d.k = true) (hn : d.n = 168) (hB : Blk w b T (arrV L)) : (Instr.loadAt t (.pointer (some ⟨b, 0, none⟩))).run P w = .ok (.agg (arrV L)) w := by
  have hlen : (arrSV L).length = 168 := by simp [arrSV]
  have := run_load_cells (E := envOf []) (w := w) hl ht (b := b) (ao := 0) (off := 0) (cs := arrSV L) (v := .agg (arrSV L)) (fun j y hj => by
    rw [hn, List.drop_zero, List.take_of_length_le (by omega)] at hj
    rw [Nat.zero_add, hB.cell]
    have h2 : (SV.vals (envOf []) (arrSV L))[j]? = some (y.val (envOf [])) := by rw [vals_get, hj]; rfl
    rw [arr_vals, Array.getElem?_toList] at h2
    exact h2) (by omega) (.inl hk) (by rw [hk]; simp only [partSV]; rw [hn, List.drop_zero, List.take_of_length_le (by omega)])
  simpa only [SV.val, arr_valsA] using this
/-- a block that is the last code of another one, which is left from within, too -/
theorem sym_block_lastJ {i : Nat} {c : Code} {G : Act → World → Prop} (hG : ∀ a w, G a w → Q .normal a w) (h : (∀ a w, G a w → Q .normal a w) → c.wp P (Exit.inBlock i (Exit.then G Q)) a w) : (Code.block i c).wp P Q a w := sym_block_last (G := G) (h hG) hG
end Go.Proofs.Ytlcccomdijdkaaa
