/- A region that draws, cut in two: what is ahead in whatever order, then, one after the other, what surely comes behind all of that. -/
import Derived.Test.YtlcccomdijdkaaaSyPx
namespace Go.Proofs.Ytlcccomdijdkaaa
open Go.RowKit

variable {P : Program} {X : Ctx} {E : Env} {a : Act} {w : World}

theorem any_prefix {lay : Lay} (hl : LayOK P lay) {ops : List Oper} {hs : List (Nat × Hint)} {st st' : SState} {tr : List IT} {obs : List Ob} (mm : Nat) (hm : mm ≤ ops.length) (pre : Nat → Bool) (hbar : ∀ j, mm ≤ j → j < ops.length → ∀ i, i < mm → pre i = true ∨ (nthN (masks [] ops) j).testBit i = true) (he : evalOps lay ops hs 0 (ops.take mm) st = some (tr, obs, st')) (ho : AllOb P X.w0.heap.size obs)
    (hd : ∀ o ∈ ops, ∀ d, o.dst = some d → d < X.n) (hE : edgesAll 0 ops = true) (hI : initB st tr = true) (hA : allPairs (masks [] ops) 0 [] (tr.map fun t => (fpOf ops.toArray t, t)) = true)
    {Q : Exit → Act → World → Prop} (kk : ∀ fuel (listed : Array Bool) E' a' w', listed.size = ops.length → (∀ i, i < ops.length → listed.getD i false = decide (i < mm)) → (List.range ops.length).countP (fun i => !listed.getD i false) ≤ fuel → St X st' E' a' w' → wpAny P .any ops.toArray Q fuel listed a' w') : ∀ (fuel : Nat) (listed : Array Bool) (E : Env) (a : Act) (w : World), listed.size = ops.length →
      (∀ j o, ops[j]? = some o → listed.getD j false = true → ∀ e ∈ o.after.toList, Region.binds .any e = true → listed.getD e.on false = true) → (List.range ops.length).countP (fun i => !listed.getD i false) ≤ fuel → (∀ i, listed.getD i false = true → i < mm) → (∀ i, pre i = true → listed.getD i false = true) →
      StF X (slotsL (fun i => listed.getD i false) 0 tr (look st.slots)) (blksL (fun i => listed.getD i false) 0 tr (look st.m.blks)) st.m.rds st.m.grs E a w → wpAny P .any ops.toArray Q fuel listed a w := by
  obtain ⟨hlen, hspec, hf1, hf2, hf3, hf4⟩ := evalOps_spec (ops.take mm) 0 st tr obs st' he ho
  have hlen : tr.length = mm := by rw [hlen, List.length_take]; omega
  have hfull : ∀ (fuel : Nat) (listed : Array Bool) (E : Env) (a : Act) (w : World), listed.size = ops.length → (List.range ops.length).countP (fun i => !listed.getD i false) ≤ fuel → (∀ i, listed.getD i false = true → i < mm) → (∀ j, j < mm → listed.getD j false = true) →
      StF X (slotsL (fun i => listed.getD i false) 0 tr (look st.slots)) (blksL (fun i => listed.getD i false) 0 tr (look st.m.blks)) st.m.rds st.m.grs E a w → wpAny P .any ops.toArray Q fuel listed a w := fun fuel listed E a w hz hc hsub hall S => by
    refine kk fuel listed E a w hz (fun i hi => ?_) hc ?_
    · by_cases him : i < mm
      · rw [hall i him, decide_eq_true him]
      · rw [decide_eq_false him]
        cases hl : listed.getD i false with
        | false => rfl
        | true => exact absurd (hsub i hl) him
    unfold St
    rw [hf1, hf2, hf3, hf4]
    refine S.weak (fun t sv h => ?_) (fun g x h => ?_)
    · rw [← h]
      exact slotsL_ext tr 0 _ _ rfl (fun k x hk _ => by have := (List.getElem?_eq_some_iff.1 hk).1; rw [Nat.zero_add]; exact hall k (by omega))
    · rw [← h]
      exact blksL_ext tr 0 _ _ rfl (fun k x hk _ => by have := (List.getElem?_eq_some_iff.1 hk).1; rw [Nat.zero_add]; exact hall k (by omega))
  -- while something is left, something is ready
  have hready : ∀ (listed : Array Bool), listed.size = ops.length → Region.ready .any ops.toArray listed = [] → ∀ j, j < ops.length → listed.getD j false = true := fun listed hz hr j => by
    induction j using Nat.strongRecOn with
    | _ j ih =>
      intro hj
      cases hlj : listed.getD j false with
      | true => rfl
      | false =>
        exfalso
        have : j ∈ Region.ready .any ops.toArray listed := mem_ready.2 ⟨getD_in (by omega) hlj, ops[j], by simp [hj], fun e he hb => by
          have := edgesB_ok (by have := edgesAll_ok hE j ops[j] (by simp [hj]); rwa [Nat.zero_add] at this) e (by simpa using he) hb
          exact ih _ this (by omega)⟩
        rw [hr] at this
        cases this
  intro fuel
  induction fuel with
  | zero =>
    intro listed E a w hz hcl hc hsub hpr S
    refine hfull 0 listed E a w hz hc hsub (fun j hj => ?_) S
    have h0 : (List.range ops.length).countP (fun i => !listed.getD i false) = 0 := by omega
    have := List.countP_eq_zero.1 h0 j (List.mem_range.2 (by omega))
    simpa using this
  | succ fuel ih =>
    intro listed E a w hz hcl hc hsub hpr S
    by_cases hall : ∀ j, j < mm → listed.getD j false = true
    · exact hfull (fuel + 1) listed E a w hz hc hsub hall S
    refine ⟨fun hr => absurd (fun j hj => hready listed hz hr j (by omega)) hall, fun j hj => ?_⟩
    obtain ⟨hun, o, hoj, hedges⟩ := mem_ready.1 hj
    have hoj' : ops[j]? = some o := by simpa using hoj
    have hjl : j < ops.length := (List.getElem?_eq_some_iff.1 hoj').1
    have hjm : j < mm := Decidable.byContradiction fun hn => hall fun i hi => by
      rcases hbar j (by omega) hjl i hi with h | h
      · exact hpr i h
      · exact (before_ok hE (L := fun i => listed.getD i false) hcl j o hoj' (fun e he hb => hedges e (by simpa using he) hb) i h).1
    obtain ⟨x, ob, hx, hxo, hitem, hob, s1, s2, s3, s4⟩ := hspec j o (by rw [List.getElem?_take, if_pos hjm]; exact hoj')
    subst hxo
    rw [Nat.zero_add] at s1 s2
    obtain ⟨n1, n2, n3⟩ := itemOf_new hitem
    have hLj : listed.getD j false = false := getD_both hun
    -- what is surely ahead of j has been done
    have hpre : ∀ i, (nthN (masks [] ops) j).testBit i = true → listed.getD i false = true := fun i hi =>
      (before_ok hE (L := fun i => listed.getD i false) hcl j x.o hoj' (fun e he hb => hedges e (by simpa using he) hb) i hi).1
    -- j is not surely ahead of what has been done
    have hpost : ∀ i y, tr[i]? = some y → listed.getD i false = true → (nthN (masks [] ops) i).testBit j = true → False := fun i y hy hLi hb => by
      have hi : i < ops.length := by have := (List.getElem?_eq_some_iff.1 hy).1; omega
      have := (before_ok hE (L := fun i => listed.getD i false) hcl i ops[i] (by simp [hi]) (fun e he hb => hcl i ops[i] (by simp [hi]) hLi e he hb) j hb).1
      rw [hLj] at this
      cases this
    have hpair : ∀ i y, tr[i]? = some y → ∀ m z, tr[m]? = some z → i < m → pairB (nthN (masks [] ops) m) i (fpOf ops.toArray y) (fpOf ops.toArray z) y z = true := fun i y hy m z hz him => by
      have := allPairs_ok (l := tr.map fun t => (fpOf ops.toArray t, t)) (done := []) (k := 0) rfl hA m (fpOf ops.toArray z, z) (by simp [hz]) i (fpOf ops.toArray y, y) (by omega) (by simp [hy])
      rwa [Nat.zero_add] at this
    -- an operation that was done and an operation behind it: apart
    have hlater : ∀ i y, tr[i]? = some y → j < i → listed.getD i false = true → (eqO x.x.dst y.x.dst || memO x.x.dst (y.o.looksAt ops.toArray) || memO y.x.dst (x.o.looksAt ops.toArray) || eqO (ghostOf x.x) (ghostOf y.x) || memO (ghostOf x.x) (touches (effS ops y.st y.o y.h) y.h y.o.op) || memO (ghostOf y.x) (touches (effS ops x.st x.o x.h) x.h x.o.op) || (match x.x.new, ghostOf x.x with | true, some g => names y.x g | _, _ => false)) = false := fun i y hy hji hLi => by
      have hp := hpair j x hx i y hy hji
      simp only [pairB, Bool.and_eq_true, Bool.or_eq_true, Bool.not_eq_true'] at hp
      rcases hp.1 with hb | hb
      · exact (hpost i y hy hLi hb).elim
      · exact hb
    have hearlier : ∀ i y, tr[i]? = some y → i < j → (listed.getD i false = true ∨ (eqO y.x.dst x.x.dst || memO y.x.dst (x.o.looksAt ops.toArray) || memO x.x.dst (y.o.looksAt ops.toArray) || eqO (ghostOf y.x) (ghostOf x.x) || memO (ghostOf y.x) (touches (effS ops x.st x.o x.h) x.h x.o.op) || memO (ghostOf x.x) (touches (effS ops y.st y.o y.h) y.h y.o.op) || (match y.x.new, ghostOf y.x with | true, some g => names x.x g | _, _ => false)) = false) ∧ (∀ g, x.x.new = true → ghostOf x.x = some g → names y.x g = false) := fun i y hy hij => by
      have hp := hpair i y hy j x hx hij
      simp only [pairB, Bool.and_eq_true, Bool.or_eq_true, Bool.not_eq_true'] at hp
      refine ⟨?_, fun g hn hg => ?_⟩
      · rcases hp.1 with hb | hb
        · exact .inl (hpre i hb)
        · exact .inr hb
      · have := hp.2
        simp only [fpOf, hn, hg] at this
        exact this
    obtain ⟨L, hL⟩ : ∃ L : Nat → Bool, L = fun i => listed.getD i false := ⟨_, rfl⟩
    -- the slots that it looks at
    have hop : ∀ t ∈ x.o.looksAt ops.toArray, slotsL L 0 tr (look st.slots) t = look x.st.slots t := fun t ht => by
      rw [s1]
      refine slotsL_ext tr 0 _ _ rfl (fun i y hy hdy => ?_)
      rw [Nat.zero_add, hL]
      by_cases hij : i < j
      · rcases (hearlier i y hy hij).1 with h1 | h1
        · exact h1.trans (decide_eq_true hij).symm
        · simp only [Bool.or_eq_false_iff] at h1
          have := h1.1.1.1.1.1.2
          rw [hdy] at this
          simp only [memO, memN_of ht] at this
          cases this
      · by_cases hji : j < i
        · cases hLi : listed.getD i false with
          | false => exact hLi.trans (decide_eq_false (by omega)).symm
          | true =>
            have h1 := hlater i y hy hji hLi
            simp only [Bool.or_eq_false_iff] at h1
            have := h1.1.1.1.1.2
            rw [hdy] at this
            simp only [memO, memN_of ht] at this
            cases this
        · obtain rfl : i = j := by omega
          exact hLj.trans (decide_eq_false (by omega)).symm
    have hbl : ∀ g ∈ touches (effS ops x.st x.o x.h) x.h x.o.op, blksL L 0 tr (look st.m.blks) g = look x.st.m.blks g := fun g hg => by
      rw [s2]
      refine blksL_ext tr 0 _ _ rfl (fun i y hy hdy => ?_)
      rw [Nat.zero_add, hL]
      by_cases hij : i < j
      · rcases (hearlier i y hy hij).1 with h1 | h1
        · exact h1.trans (decide_eq_true hij).symm
        · simp only [Bool.or_eq_false_iff] at h1
          have := h1.1.1.2
          rw [hdy] at this
          simp only [memO, memN_of hg] at this
          cases this
      · by_cases hji : j < i
        · cases hLi : listed.getD i false with
          | false => exact hLi.trans (decide_eq_false (by omega)).symm
          | true =>
            have h1 := hlater i y hy hji hLi
            simp only [Bool.or_eq_false_iff] at h1
            have := h1.1.2
            rw [hdy] at this
            simp only [memO, memN_of hg] at this
            cases this
        · obtain rfl : i = j := by omega
          exact hLj.trans (decide_eq_false (by omega)).symm
    rw [← hL] at S
    have hwp : (if Region.wanted x.o (yielded ops.toArray a.tmps) then x.o.wp P a w (wpAny P .any ops.toArray Q fuel (listed.setIfInBounds j true)) Q else wpAny P .any ops.toArray Q fuel (listed.setIfInBounds j true) (a.put x.o.dst undef) w) := by
      refine item_sound (X := X) (E := E) hl hitem hob (by rw [s3, s4]; exact S) hop hbl (fun g y hb hn => ?_) (fun g y hb hn => ?_) (fun d hd' => hd x.o (List.mem_of_getElem? hoj') d hd') (fun E' a' w' S' => ?_)
      · -- a new block's number is new
        obtain ⟨f1, f2⟩ := n2 g y hb hn
        have hgh : ghostOf x.x = some g := by simp [ghostOf, hb]
        -- whatever was done does not name it
        have hnm : ∀ i z, tr[i]? = some z → L i = true → names z.x g = false ∧ ghostOf z.x ≠ some g := fun i z hz hLi => by
          rw [hL] at hLi
          by_cases hij : i < j
          · refine ⟨(hearlier i z hz hij).2 g hn hgh, fun hzg => ?_⟩
            -- it would be in the state ahead of j
            have : look x.st.m.blks g ≠ none := by
              rw [s2]
              intro hnone
              have key : ∀ (l : List IT) (m : Nat) (f : BF), (∃ k y, l[k]? = some y ∧ m + k < j ∧ ghostOf y.x = some g) → blksL (fun m => decide (m < j)) m l f g ≠ none := by
                intro l
                induction l with
                | nil => rintro m f ⟨k, y, hy, _⟩; simp at hy
                | cons u l ihl =>
                  rintro m f ⟨k, y, hy, hmk, hg⟩
                  simp only [blksL]
                  have keep : ∀ (l : List IT) (m : Nat) (f : BF), f g ≠ none → blksL (fun m => decide (m < j)) m l f g ≠ none := by
                    intro l
                    induction l with
                    | nil => intro m f h; exact h
                    | cons u l ihl =>
                      intro m f h
                      simp only [blksL]
                      refine ihl _ _ ?_
                      split
                      · rw [blkF_at]
                        split
                        · split
                          · simp
                          · exact h
                        · exact h
                      · exact h
                  cases k with
                  | zero =>
                    simp only [List.getElem?_cons_zero, Option.some.injEq] at hy
                    subst hy
                    refine keep l _ _ ?_
                    rw [if_pos (by simp; omega)]
                    unfold ghostOf at hg
                    rw [blkF_at]
                    cases hb : u.x.blk with
                    | none => rw [hb] at hg; simp at hg
                    | some b =>
                      rw [hb] at hg
                      simp only [Option.some.injEq] at hg
                      simp [hg]
                  | succ k => exact ihl (m + 1) _ ⟨k, y, by simpa using hy, by omega, hg⟩
              exact key tr 0 _ ⟨i, z, hz, by omega, hzg⟩ hnone
            exact this (freshBl_ok f2).1
          · by_cases hji : j < i
            · have h1 := hlater i z hz hji hLi
              simp only [Bool.or_eq_false_iff] at h1
              refine ⟨?_, fun hzg => ?_⟩
              · have := h1.2
                simp only [hn, hgh] at this
                exact this
              · have := h1.1.1.1.2
                simp only [hgh, hzg, eqO] at this
                simp at this
            · obtain rfl : i = j := by omega
              exact absurd (hLj.symm.trans hLi) (by simp)
        refine ⟨?_, fun t sv ht => ?_, fun g' y' hg' => ?_⟩
        · cases hbg : blksL L 0 tr (look st.m.blks) g with
          | none => rfl
          | some y' =>
            exfalso
            rcases blksL_from tr 0 L _ g y' hbg with h1 | ⟨i, z, hz, hLi, hzb⟩
            · -- it was there at first: then it is there ahead of j
              have keep : ∀ (l : List IT) (m : Nat) (f : BF), f g ≠ none → blksL (fun m => decide (m < j)) m l f g ≠ none := by
                intro l
                induction l with
                | nil => intro m f h; exact h
                | cons u l ihl =>
                  intro m f h
                  simp only [blksL]
                  refine ihl _ _ ?_
                  split
                  · rw [blkF_at]
                    split
                    · split
                      · simp
                      · exact h
                    · exact h
                  · exact h
              have := keep tr 0 (look st.m.blks) (by rw [h1]; simp)
              rw [← s2] at this
              exact this (freshBl_ok f2).1
            · rw [Nat.zero_add] at hLi
              exact (hnm i z hz hLi).2 (by simp [ghostOf, hzb])
        · rcases slotsL_from tr 0 L _ t sv ht with h1 | ⟨i, z, hz, hLi, rfl⟩
          · exact freshS_ok (initB_ok hI x (List.mem_of_getElem? hx) hn g hgh).1 t sv h1
          · rw [Nat.zero_add] at hLi
            exact (names_free (hnm i z hz hLi).1).1
        · rcases blksL_from tr 0 L _ g' y' hg' with h1 | ⟨i, z, hz, hLi, hzb⟩
          · exact (freshBl_ok (initB_ok hI x (List.mem_of_getElem? hx) hn g hgh).2).2 g' y' h1
          · rw [Nat.zero_add] at hLi
            exact (names_free (hnm i z hz hLi).1).2 g' y' hzb
      · obtain ⟨t, cs, cs', c0, c1, c2⟩ := n3 g y hb hn
        exact ⟨t, cs, cs', c0, (hbl g c2).trans c1, c2⟩
      · refine ih (listed.setIfInBounds j true) E' a' w' (by simpa using hz) (fun i o hi hLi e he hb => ?_) ?_ (fun i hi => by
          by_cases hij : j = i
          · omega
          · rw [getD_set_ne false hij] at hi; exact hsub i hi) (fun i hi => getD_set_true (hpr i hi)) ?_
        · by_cases hij : j = i
          · subst hij
            have : o = x.o := by rw [hoj'] at hi; exact (Option.some.inj hi).symm
            subst this
            exact getD_set_true (hedges e (by simpa using he) hb)
          · rw [getD_set_ne false hij] at hLi
            exact getD_set_true (hcl i o hi hLi e he hb)
        · have : (List.range ops.length).countP (fun i => !(listed.setIfInBounds j true).getD i false) < (List.range ops.length).countP (fun i => !listed.getD i false) := by
            refine countP_lt _ (fun i _ hi => ?_) ⟨j, List.mem_range.2 hjl, by simp only [hLj]; rfl, ?_⟩
            · by_cases hij : j = i
              · subst hij; simp only [hLj]; rfl
              · rw [getD_set_ne false hij] at hi; exact hi
            · simp [hz, hjl]
          omega
        · have hset : ∀ i, i ≠ j → (listed.setIfInBounds j true).getD i false = L i := fun i hi => by rw [hL, getD_set_ne false (fun e => hi e.symm)]
          have hsj : (listed.setIfInBounds j true).getD j false = true := by simp [hz, hjl]
          have hLj' : L j = false := by rw [hL]; exact hLj
          rw [slotsL_set (L := L) (L' := fun i => (listed.setIfInBounds j true).getD i false) (j := j) (xj := x) hLj' hsj hset tr 0 _ (Nat.zero_le _) (by simpa using hx) (fun i y hy hji hLi t hdt hxt => by
              rw [Nat.zero_add] at hji hLi
              rw [hL] at hLi
              have h1 := hlater i y hy hji hLi
              simp only [Bool.or_eq_false_iff] at h1
              have := h1.1.1.1.1.1.1
              simp [eqO, hdt, hxt] at this),
            blksL_set (L := L) (L' := fun i => (listed.setIfInBounds j true).getD i false) (j := j) (xj := x) hLj' hsj hset tr 0 _ (Nat.zero_le _) (by simpa using hx) (fun i y hy hji hLi t hdt hxt => by
              rw [Nat.zero_add] at hji hLi
              rw [hL] at hLi
              have h1 := hlater i y hy hji hLi
              simp only [Bool.or_eq_false_iff] at h1
              have := h1.1.1.1.2
              simp [eqO, hdt, hxt] at this)]
          rw [s3, s4] at S'
          exact S'
    unfold wpOp
    simp only [hoj]
    split
    · rename_i hw; rw [if_pos hw] at hwp; exact .inl hwp
    · rename_i hw; rw [if_neg hw] at hwp; exact hwp


/-- one after the other, from m on -/
def forcedB (ops : List Oper) (m : Nat) : Bool := (List.range ops.length).all fun j => Nat.blt j m || (List.range j).all fun i => Nat.blt i m || Nat.testBit (nthN (masks [] ops) j) i
theorem any_forced {ops : List Oper} (hE : edgesAll 0 ops = true) {Q : Exit → Act → World → Prop} {m0 : Nat} (hbar : ∀ j, m0 ≤ j → j < ops.length → ∀ i, i < j → m0 ≤ i → (nthN (masks [] ops) j).testBit i = true) : ∀ (rest : List Oper) (m fuel : Nat) (listed : Array Bool) (a : Act) (w : World), m0 ≤ m → ops.drop m = rest → listed.size = ops.length →
    (∀ i, i < ops.length → listed.getD i false = decide (i < m)) → (List.range ops.length).countP (fun i => !listed.getD i false) ≤ fuel → wpList P ops.toArray Q rest a w → wpAny P .any ops.toArray Q fuel listed a w := by
  have hcl : ∀ (m : Nat) (listed : Array Bool), (∀ i, i < ops.length → listed.getD i false = decide (i < m)) → ∀ j o, ops[j]? = some o → listed.getD j false = true → ∀ e ∈ o.after.toList, Region.binds .any e = true → listed.getD e.on false = true := fun m listed hl j o hj hLj e he hb => by
    have hjl : j < ops.length := (List.getElem?_eq_some_iff.1 hj).1
    have hlt := edgesB_ok (by have := edgesAll_ok hE j o hj; rwa [Nat.zero_add] at this) e he hb
    rw [hl j hjl] at hLj
    have := of_decide_eq_true hLj
    rw [hl e.on (by omega)]
    exact decide_eq_true (by omega)
  intro rest
  induction rest with
  | nil =>
    intro m fuel listed a w hm hr hz hl hc h
    have hml : ops.length ≤ m := by
      have := congrArg List.length hr
      simp at this
      omega
    have hready : Region.ready .any ops.toArray listed = [] := by
      cases hr : Region.ready .any ops.toArray listed with
      | nil => rfl
      | cons i r =>
        obtain ⟨h1, o, h2, _⟩ := mem_ready.1 (show i ∈ Region.ready .any ops.toArray listed from hr ▸ List.mem_cons_self)
        have hi : i < ops.length := by have := (Array.getElem?_eq_some_iff.1 h2).1; simpa using this
        have := hl i hi
        rw [getD_both h1, decide_eq_true (by omega)] at this
        cases this
    cases fuel with
    | zero => exact ⟨hready, h⟩
    | succ fuel => exact ⟨fun _ => h, fun j hj => by rw [hready] at hj; cases hj⟩
  | cons o rest ih =>
    intro m fuel listed a w hm hr hz hl hc h
    have hmo : ops[m]? = some o := by
      have := congrArg (fun l => l[0]?) hr
      simpa using this
    have hml : m < ops.length := (List.getElem?_eq_some_iff.1 hmo).1
    have hun : listed.getD m false = false := (hl m hml).trans (decide_eq_false (by omega))
    have hrest : ops.drop (m + 1) = rest := by
      rw [← List.drop_drop, hr]; rfl
    have hset : ∀ i, i < ops.length → (listed.setIfInBounds m true).getD i false = decide (i < m + 1) := fun i hi => by
      by_cases e : m = i
      · subst e
        rw [decide_eq_true (by omega)]
        simp [hz, hml]
      · rw [getD_set_ne false e, hl i hi]
        by_cases h1 : i < m
        · rw [decide_eq_true h1, decide_eq_true (by omega)]
        · rw [decide_eq_false h1, decide_eq_false (by omega)]
    have hcnt : (List.range ops.length).countP (fun i => !(listed.setIfInBounds m true).getD i false) < (List.range ops.length).countP (fun i => !listed.getD i false) := by
      refine countP_lt _ (fun i _ hi => ?_) ⟨m, List.mem_range.2 hml, by simp only [hun]; rfl, ?_⟩
      · by_cases e : m = i
        · subst e; simp only [hun]; rfl
        · rw [getD_set_ne false e] at hi; exact hi
      · simp [hz, hml]
    cases fuel with
    | zero => omega
    | succ fuel =>
      refine ⟨fun hrd => ?_, fun j hj => ?_⟩
      · exfalso
        have : m ∈ Region.ready .any ops.toArray listed := mem_ready.2 ⟨getD_in (by omega) hun, o, by simpa using hmo, fun e he hb => by
          have := edgesB_ok (by have := edgesAll_ok hE m o hmo; rwa [Nat.zero_add] at this) e (by simpa using he) hb
          exact (hl e.on (by omega)).trans (decide_eq_true this)⟩
        rw [hrd] at this
        cases this
      · obtain ⟨hjun, oj, hoj, hedges⟩ := mem_ready.1 hj
        have hoj' : ops[j]? = some oj := by simpa using hoj
        have hjl : j < ops.length := (List.getElem?_eq_some_iff.1 hoj').1
        have hLj : listed.getD j false = false := getD_both hjun
        have hjm : ¬ j < m := fun hlt => by
          rw [hl j hjl, decide_eq_true hlt] at hLj
          cases hLj
        have e : j = m := by
          rcases Nat.lt_or_ge m j with hlt | hge
          · exfalso
            have := (before_ok hE (L := fun i => listed.getD i false) (hcl m listed hl) j oj hoj' (fun e he hb => hedges e (by simpa using he) hb) m (hbar j (by omega) hjl m hlt hm)).1
            rw [hun] at this
            cases this
          · omega
        subst e
        have : wpOp P ops.toArray Q j (wpList P ops.toArray Q rest) a w := by
          unfold wpOp
          simp only [List.getElem?_toArray, hmo]
          exact h
        exact wpOp_mono (fun a' w' h' => ih (j + 1) fuel _ a' w' (by omega) hrest (by simpa using hz) hset (by omega) h') this
/-- the first operation floats: it is a move -/
def floatB (ops : List Oper) : Bool := match ops with
  | o0 :: r => (match o0.op, o0.guard, o0.dst, o0.after.toList with
    | .move (.tmp _), none, some _, [] => true
    | _, _, _, _ => false) && r.all fun oj => oj.after.any (fun e => Region.binds .any e && Nat.beq e.on 0) || o0.apart ops.toArray oj
  | [] => false
def barB (ops : List Oper) (m : Nat) (fl : Bool) : Bool := (List.range ops.length).all fun j => Nat.blt j m || (List.range m).all fun i => (fl && Nat.beq i 0) || Nat.testBit (nthN (masks [] ops) j) i
def cutB (lay : Lay) (ops : List Oper) (hs : List (Nat × Hint)) (st : SState) (m : Nat) : Bool := match evalOps lay ops hs 0 (ops.take m) st with
  | some (tr, _, _) => edgesAll 0 ops && initB st tr && allPairs (masks [] ops) 0 [] (tr.map fun t => (fpOf ops.toArray t, t)) && Nat.ble m ops.length && Nat.blt 0 m && barB ops m true && forcedB ops m && floatB ops && Region.noSelect ops.toArray && (look hs 0).isNone
  | none => false
theorem sym_region_cut {lay : Lay} (hl : LayOK P lay) (hmx : P.follows .mixedOrders = true) {id : Nat} {ops : List Oper} (hs : List (Nat × Hint)) (m : Nat) {st : SState} (st' : SState) (obs : List Ob) {Q : Exit → Act → World → Prop} (hn : dstB X.n ops = true)
    (hev : (match evalOps lay ops hs 0 (ops.take m) st with | some (_, obs, st') => some (st', obs) | none => none) = some (st', obs)) (hcut : cutB lay ops hs st m = true) (ho : AllOb P X.w0.heap.size obs) (S : St X st E a w)
    (hQ : ∀ c d v a w, Q (.panic c) (a.put d v) w → Q (.panic c) a w) (kk : ∀ E' a' w', St X st' E' a' w' → wpList P ops.toArray Q (ops.drop m) a' w') : (Code.region id ops.toArray true).wp P Q a w := by
  unfold cutB at hcut
  cases h1 : evalOps lay ops hs 0 (ops.take m) st with
  | none => rw [h1] at hev; simp at hev
  | some r =>
    obtain ⟨tr, obs2, st2⟩ := r
    rw [h1] at hev hcut
    simp only [Option.some.injEq, Prod.mk.injEq] at hev
    obtain ⟨rfl, rfl⟩ := hev
    simp only [Bool.and_eq_true] at hcut
    obtain ⟨⟨⟨⟨⟨⟨⟨⟨⟨d1, d2⟩, d3⟩, d4⟩, d5⟩, d6⟩, d7⟩, d8⟩, d9⟩, d10⟩ := hcut
    have hm := Nat.le_of_ble_eq_true d4
    have hm0 : 0 < m := Nat.lt_of_succ_le (Nat.le_of_ble_eq_true d5)
    have hbar : ∀ j, m ≤ j → j < ops.length → ∀ i, i < m → (decide (i = 0)) = true ∨ (nthN (masks [] ops) j).testBit i = true := fun j hj hjl i hi => by
      have := List.all_eq_true.1 d6 j (List.mem_range.2 hjl)
      simp only [Bool.or_eq_true] at this
      rcases this with h | h
      · have := Nat.lt_of_succ_le (Nat.le_of_ble_eq_true h); omega
      · have := List.all_eq_true.1 h i (List.mem_range.2 hi)
        simp only [Bool.true_and, Bool.or_eq_true, Nat.beq_eq] at this
        rcases this with h | h
        · exact .inl (decide_eq_true h)
        · exact .inr h
    have hfor : ∀ j, m ≤ j → j < ops.length → ∀ i, i < j → m ≤ i → (nthN (masks [] ops) j).testBit i = true := fun j hj hjl i hi hmi => by
      have := List.all_eq_true.1 d7 j (List.mem_range.2 hjl)
      simp only [Bool.or_eq_true] at this
      rcases this with h | h
      · have := Nat.lt_of_succ_le (Nat.le_of_ble_eq_true h); omega
      · have := List.all_eq_true.1 h i (List.mem_range.2 hi)
        simp only [Bool.or_eq_true] at this
        rcases this with h | h
        · have := Nat.lt_of_succ_le (Nat.le_of_ble_eq_true h); omega
        · exact h
    refine wp_region_any hmx ?_
    have S' : St X st E a { w with drawn := w.drawn + 1 } := StF.later S ⟨rfl, rfl, rfl, Nat.le_refl _, fun _ _ => rfl⟩
    generalize ({ w with drawn := w.drawn + 1 } : World) = w1 at S' ⊢
    -- the first one
    cases ops with
    | nil => simp [floatB] at d8
    | cons o0 r =>
    obtain ⟨m', rfl⟩ : ∃ m', m = m' + 1 := ⟨m - 1, by omega⟩
    simp only [floatB, Bool.and_eq_true] at d8
    obtain ⟨e1, e2⟩ := d8
    split at e1
    · rename_i t d g1 g2 g3 g4
      have hI := h1
      rw [List.take_succ_cons] at hI
      simp only [evalOps] at hI
      have hh : hintAt hs 0 = {} := by
        unfold hintAt
        rw [Option.isNone_iff_eq_none.1 d10]
      rw [hh] at hI
      cases hx : look st.slots t with
      | none =>
        exfalso
        have : itemOf lay (o0 :: r) st o0 {} = none := by simp [itemOf, itemShut, wantB, g2, evalOp, evalOp0, g1, opnd, hx]
        rw [this] at hI
        simp at hI
      | some sv =>
        have hit : itemOf lay (o0 :: r) st o0 {} = some (⟨some d, sv, none, false⟩, []) := by simp [itemOf, itemShut, wantB, g2, evalOp, evalOp0, g1, opnd, hx, castTI, g3]
        rw [hit] at hI
        simp only at hI
        cases hr : evalOps lay (o0 :: r) hs 1 (List.take m' r) (applyTI st ⟨some d, sv, none, false⟩) with
        | none => rw [hr] at hI; simp at hI
        | some y =>
          obtain ⟨tr2, ob2, st3⟩ := y
          rw [hr] at hI
          simp only [Option.some.injEq, Prod.mk.injEq] at hI
          obtain ⟨htr, _, _⟩ := hI
          have hlt0 : (0 : Nat) < (o0 :: r).length := by simp
          have hev0 : a.eval (.tmp t) = sv.val E := by
            have := S'.slot t sv hx
            simp [Act.eval, this]
          have hsz : (o0 :: r).toArray.size = (o0 :: r).length := by simp
          rw [hsz]
          refine wpAny_first (i := 0) (oi := o0) (v := sv.val E) (by simp) (Region.noSelect_spec d9) (fun c a w h => hQ c _ _ a w h) r.length (Array.replicate (o0 :: r).length false) a w1 (fun j oj hoj hj0 _ hno => ?_) ?_ (.inl ⟨by simp [Region.wanted, g2], fun w => ?_⟩) ?_
          · obtain ⟨j', rfl⟩ : ∃ j', j = j' + 1 := ⟨j - 1, by omega⟩
            have hmem : oj ∈ r := by
              have : r[j']? = some oj := by simpa using hoj
              exact List.mem_of_getElem? this
            have := List.all_eq_true.1 e2 oj hmem
            simp only [Bool.or_eq_true] at this
            rcases this with h | h
            · exfalso
              rw [Array.any_eq_true'] at h
              obtain ⟨e, he, hb⟩ := h
              simp only [Bool.and_eq_true, Nat.beq_eq] at hb
              exact hno e he hb.1 hb.2
            · exact h
          · refine mem_ready.2 ⟨by simp, o0, by simp, fun e he => ?_⟩
            have : e ∈ o0.after.toList := by simpa using he
            rw [g4] at this
            cases this
          · obtain ⟨dst, op, ty, pos, aft, gd⟩ := o0
            simp only at g1
            subst g1
            simp [execOp, hev0, Sem.run_pure]
          · have hL : ∀ i, ((Array.replicate (o0 :: r).length false).setIfInBounds 0 true).getD i false = decide (i = 0) := fun i => by
              by_cases e : i = 0
              · subst e; simp
              · rw [getD_set_ne false (fun h => e h.symm), getD_replicate_false, decide_eq_false e]
            have hS : StF X (slotsL (fun i => ((Array.replicate (o0 :: r).length false).setIfInBounds 0 true).getD i false) 0 tr (look st.slots)) (blksL (fun i => ((Array.replicate (o0 :: r).length false).setIfInBounds 0 true).getD i false) 0 tr (look st.m.blks)) st.m.rds st.m.grs E (a.put o0.dst (sv.val E)) w1 := by
              rw [show (fun i => ((Array.replicate (o0 :: r).length false).setIfInBounds 0 true).getD i false) = fun i => decide (i = 0) from funext hL, ← htr]
              simp only [slotsL, blksL, decide_true, if_true]
              rw [slotsL_none _ _ _ _ (fun k hk => decide_eq_false (by omega)), blksL_none _ _ _ _ (fun k hk => decide_eq_false (by omega))]
              rw [g3]
              exact StF.put S' (dstB_ok hn o0 (by simp) d g3) sv
            refine any_prefix hl (m' + 1) hm (fun i => decide (i = 0)) hbar h1 ho (dstB_ok hn) d1 d2 d3 (fun fuel listed E' a' w' hz hl' hc S2 => any_forced d1 hfor _ (m' + 1) fuel listed a' w' (Nat.le_refl _) rfl hz hl' hc (kk E' a' w' S2)) r.length _ E _ w1 (by simp) (fun j o hj hLj e he hb => ?_) ?_ (fun i hi => ?_) (fun i hi => by rw [hL]; exact hi) hS
            · rw [hL] at hLj
              have := of_decide_eq_true hLj
              subst this
              simp at hj
              subst hj
              rw [g4] at he
              cases he
            · have : (List.range (o0 :: r).length).countP (fun i => !((Array.replicate (o0 :: r).length false).setIfInBounds 0 true).getD i false) < (List.range (o0 :: r).length).countP (fun i => !(Array.replicate (o0 :: r).length false).getD i false) := by
                refine countP_lt _ (fun i _ hi => ?_) ⟨0, List.mem_range.2 hlt0, by rw [getD_replicate_false]; rfl, by rw [hL]; rfl⟩
                rw [getD_replicate_false]; rfl
              have h2 : (List.range (o0 :: r).length).countP (fun i => !(Array.replicate (o0 :: r).length false).getD i false) ≤ (o0 :: r).length := Nat.le_trans List.countP_le_length (by simp)
              simp only [List.length_cons] at this h2 ⊢
              omega
            · rw [hL] at hi
              have := of_decide_eq_true hi
              omega
    · cases e1
theorem sym_region_cutP {lay : Lay} (hl : LayOK P lay) (hmx : P.follows .mixedOrders = true) {id : Nat} {ops : List Oper} (hs : List (Nat × Hint)) (m : Nat) (ks gs : List Nat) {st : SState} (st' : SState) (obs : List Ob) {Q : Exit → Act → World → Prop} (S : St X st E a w) (hn : dstB X.n ops = true)
    (hev : evalP lay ops hs 0 m ks gs ops st = some (st', obs)) (hcut : cutB lay ops hs st m = true) (ho : AllOb P X.w0.heap.size obs)
    (hQ : ∀ c d v a w, Q (.panic c) (a.put d v) w → Q (.panic c) a w) (kk : ∀ E' a' w', St X st' E' a' w' → wpList P ops.toArray Q (ops.drop m) a' w') : (Code.region id ops.toArray true).wp P Q a w := by
  unfold evalP at hev
  cases h1 : evalN lay ops hs 0 m ops st with
  | none => rw [h1] at hev; simp at hev
  | some r =>
    obtain ⟨s, o2⟩ := r
    rw [h1] at hev
    simp only [Option.some.injEq, Prod.mk.injEq] at hev
    obtain ⟨rfl, rfl⟩ := hev
    exact sym_region_cut hl hmx hs m s o2 hn h1 hcut ho S hQ fun E' a' w' S' => kk E' a' w' (S'.weak (fun t sv h => pickL_sub _ _ _ _ h) (fun g x h => pickL_sub _ _ _ _ h))
end Go.Proofs.Ytlcccomdijdkaaa
