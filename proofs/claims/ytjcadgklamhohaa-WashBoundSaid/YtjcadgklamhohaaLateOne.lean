/- A drawn region with one new block, in which a part of a tuple may be taken behind the store: the order makes no difference. -/
import Derived.Test.YtjcadgklamhohaaOne
namespace Go.Proofs.Ytjcadgklamhohaa
open Go.RowKit Go.Sort

theorem wpAny_one {P : Program} {C : World → Prop} {Q : Exit → Act → World → Prop} {a : Act} {w : World} {l : List Oper} (n B d1 : Nat) (t1 : TypeId) (z1 : Array Value) (hB : Region.lexTailB .any l.toArray (n + 1) = true)
    (T : One P l.toArray C n B d1 t1 z1) (hC : C { w with drawn := w.drawn + 1 })
    (h : wpCalm P l.toArray C (fun a' => ∀ w' g1, C w' → (Blk w' g1 t1 z1 ∧ B ≤ g1) → wpList P l.toArray Q (l.drop (n + 1)) (a'.put (some d1) (.pointer (some ⟨g1, 0, none⟩))) w') (l.take n) a) :
    wpAny P .any l.toArray Q l.toArray.size (Array.replicate l.toArray.size false) a { w with drawn := w.drawn + 1 } := by
  simp only [Region.lexTailB, Bool.and_eq_true, decide_eq_true_eq] at hB
  obtain ⟨⟨⟨⟨hsel, hn⟩, hs⟩, hc⟩, hlex⟩ := hB
  have hn' : n + 1 < l.length := by simpa using hn
  have htl : (l.take n).length = n := by simp; omega
  have hdl : (l.drop (n + 1)).length = l.toArray.size - (n + 1) := by simp
  have inv0 : HeadInv .any l.toArray (n + 1) (Array.replicate l.toArray.size false) :=
    ⟨by simp, fun j oj _ hl => (by rw [getD_replicate_false] at hl; cases hl), fun t _ ht => getD_in (by simpa using ht) (getD_replicate_false _ _)⟩
  have hl0 : ∀ m, m < l.toArray.size → (Array.replicate l.toArray.size false).getD m true = false := fun m hm => getD_in (by simpa using hm) (getD_replicate_false _ _)
  have H := wpAnyH_lex (md := .any) (g := l.toArray.size - (n + 1)) hsel hs hc hn (l.take n) 0 _ a (fun j hj => by
    have hj' : j < n := by rw [htl] at hj; exact hj
    simp [hj']) (by simpa using htl) inv0 (by rw [htl]; exact hlex) h
  have := wpAny_of_H (Q' := Q) (g := l.toArray.size - (n + 1)) T (fun listed a' hL => hL.1.2) (fun listed a' hL w' g1 hw' f1 => by
    have := wpAny_of_seq (md := .any) (Q' := Q) (l.drop (n + 1)) (n + 1) listed _ w' (fun j => by simp [List.getElem?_drop]) (by rw [hdl]; exact hL.1.1) (hL.2 w' g1 hw' f1)
    rwa [hdl] at this) _ _ _ H { w with drawn := w.drawn + 1 } none hC trivial (hl0 n (by omega))
  rw [htl, show n + 1 + (l.toArray.size - (n + 1)) = l.toArray.size by omega] at this
  exact this

theorem wp_region_one_late {P : Program} {id : Nat} {Q : Exit → Act → World → Prop} {a : Act} {w : World} {l : List Oper} (n q d1 : Nat) (t1 : TypeId) (z1 : Array Value) (hm : P.follows .mixedOrders = true) (hB : Region.lexTailB .any (tie l.toArray (n + 1) q) (n + 1) = true) (hL : lateB l.toArray (n + 1) q = true)
    (o1 : ∃ o, l.toArray[n]? = some o ∧ o.dst = some d1 ∧ o.guard = none ∧ ∀ (a : Act) w, (execOp a.eval o).run P w = .ok (.value (.pointer (some ⟨w.heap.size, 0, none⟩))) (w.alloc (.cells z1 t1)))
    (hfar : farB1 (tie l.toArray (n + 1) q) n d1 = true) (hs : Region.noSelect (tie l.toArray (n + 1) q) = true)
    (h : wpCalm P l.toArray (fun w' => ∃ p : Regrown, w' = grow (redrawn w p.d) p.os) (fun a' => ∀ w' g1, Below w.heap.size w w' → Blk w' g1 t1 z1 → w.heap.size ≤ g1 →
      wpList P l.toArray Q (l.drop (n + 1)) (a'.put (some d1) (.pointer (some ⟨g1, 0, none⟩))) w') (l.take n) a) :
    (Code.region id l.toArray true).wp P Q a w := by
  obtain ⟨op, oq, L⟩ := late_of hL
  have hlt : n + 1 < l.length := by simpa using (Array.getElem?_eq_some_iff.1 L.hp).1
  refine wp_region_any hm (wpAny_untie L _ _ _ _ (by simp) ?_)
  have e : tie l.toArray (n + 1) q = (l.modify (n + 1) (tieO q)).toArray := by
    apply Array.ext_getElem?
    intro i
    simp [tie, List.getElem?_modify]
  have et : (l.modify (n + 1) (tieO q)).take n = l.take n := by
    apply List.ext_getElem?
    intro i
    simp only [List.getElem?_take, List.getElem?_modify]
    split
    · cases l[i]? with
      | none => rfl
      | some o => simp only [Option.map_eq_map, Option.map_some]; rw [if_neg (by omega)]
    · rfl
  have ed : (l.modify (n + 1) (tieO q)).drop (n + 1) = tieO q (l[n + 1]) :: l.drop (n + 2) := by
    rw [List.drop_eq_getElem_cons (by simpa using hlt)]
    congr 1
    · simp
    · apply List.ext_getElem?
      intro i
      simp only [List.getElem?_drop, List.getElem?_modify, show n + 1 + 1 + i = n + 2 + i by omega]
      cases l[n + 2 + i]? with
      | none => rfl
      | some o => simp only [Option.map_eq_map, Option.map_some]; rw [if_neg (by omega)]
  have hz : l.toArray.size = (l.modify (n + 1) (tieO q)).toArray.size := by simp
  rw [e] at hB hfar hs ⊢
  rw [hz]
  obtain ⟨oa, a1, a2, a3, a4⟩ : ∃ o, (l.modify (n + 1) (tieO q)).toArray[n]? = some o ∧ o.dst = some d1 ∧ o.guard = none ∧ ∀ (a : Act) w, (execOp a.eval o).run P w = .ok (.value (.pointer (some ⟨w.heap.size, 0, none⟩))) (w.alloc (.cells z1 t1)) := by
    rw [← e, tie_ne (by omega)]; exact o1
  refine wpAny_one (P := P) (Q := Q) (C := fun w' => ∃ p : Regrown, w' = grow (redrawn w p.d) p.os) n w.heap.size d1 t1 z1 hB ⟨⟨oa, a1, a2, a3, fun cs b => Region.noSelect_spec hs _ _ cs b a1, a4⟩, farB1_spec hfar hs, ?_, ?_⟩ ⟨⟨w.drawn + 1, #[]⟩, by rw [grow_empty]; rfl⟩ ?_
  · rintro _ o ⟨p, rfl⟩
    have hb := below_regrown w p.d p.os
    exact regrown_of_below (hb.alloc hb.size o)
  · rintro _ ⟨p, rfl⟩
    exact (below_regrown w p.d p.os).size
  · rw [et, ← e]
    refine wpCalm_tie _ _ (wpCalm_mono (fun a' ha => ?_) _ _ h)
    rintro w' g1 ⟨p, rfl⟩ h1
    have h3 := ha _ g1 (below_regrown w p.d p.os) h1.1 h1.2
    rw [ed]
    refine wpList_tie _ _ _ (wpList_tieO ?_)
    rwa [List.drop_eq_getElem_cons hlt] at h3
end Go.Proofs.Ytjcadgklamhohaa
