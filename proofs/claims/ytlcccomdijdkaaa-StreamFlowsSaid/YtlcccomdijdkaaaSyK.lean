/- Regions in whatever order: the theorem. -/
import Derived.StillTail
import Derived.Test.YtlcccomdijdkaaaSyJ
namespace Go.Proofs.Ytlcccomdijdkaaa
open Go.RowKit

variable {P : Program} {X : Ctx} {E : Env} {a : Act} {w : World}

theorem evalOps_spec {lay : Lay} {ops : List Oper} {hs : List (Nat × Hint)} {B : Nat} : ∀ (l : List Oper) (i : Nat) (st : SState) (tr : List IT) (obs : List Ob) (st' : SState), evalOps lay ops hs i l st = some (tr, obs, st') → AllOb P B obs →
    tr.length = l.length ∧ (∀ k o, l[k]? = some o → ∃ x ob, tr[k]? = some x ∧ x.o = o ∧ itemOf lay ops x.st o x.h = some (x.x, ob) ∧ AllOb P B ob ∧
      look x.st.slots = slotsL (fun m => decide (m < i + k)) i tr (look st.slots) ∧ look x.st.m.blks = blksL (fun m => decide (m < i + k)) i tr (look st.m.blks) ∧ x.st.m.rds = st.m.rds ∧ x.st.m.grs = st.m.grs) ∧
    look st'.slots = slotsL (fun _ => true) i tr (look st.slots) ∧ look st'.m.blks = blksL (fun _ => true) i tr (look st.m.blks) ∧ st'.m.rds = st.m.rds ∧ st'.m.grs = st.m.grs
  | [], i, st, tr, obs, st', he, _ => by
    simp only [evalOps, Option.some.injEq, Prod.mk.injEq] at he
    obtain ⟨rfl, rfl, rfl⟩ := he
    exact ⟨rfl, fun k o h => by simp at h, rfl, rfl, rfl, rfl⟩
  | o :: l, i, st, tr, obs, st', he, ho => by
    simp only [evalOps] at he
    cases hi : itemOf lay ops st o (hintAt hs i) with
    | none => rw [hi] at he; simp at he
    | some r =>
      obtain ⟨x, ob⟩ := r
      rw [hi] at he
      simp only at he
      cases hr : evalOps lay ops hs (i + 1) l (applyTI st x) with
      | none => rw [hr] at he; simp at he
      | some r2 =>
        obtain ⟨tr2, obs2, st2⟩ := r2
        rw [hr] at he
        simp only [Option.some.injEq, Prod.mk.injEq] at he
        obtain ⟨rfl, rfl, rfl⟩ := he
        obtain ⟨o1, o2⟩ := AllOb.append ho
        obtain ⟨h1, h2, h3, h4, h5, h6⟩ := evalOps_spec l (i + 1) _ _ _ _ hr o2
        obtain ⟨r1, r2⟩ := applyTI_rest st x
        refine ⟨by simp [h1], fun k o' hk => ?_, ?_, ?_, h5.trans r1, h6.trans r2⟩
        · cases k with
          | zero =>
            simp only [List.getElem?_cons_zero, Option.some.injEq] at hk
            subst hk
            refine ⟨_, ob, rfl, rfl, hi, o1, ?_, ?_, rfl, rfl⟩
            · rw [slotsL_none _ _ _ _ (fun m hm => by simp; omega)]
            · rw [blksL_none _ _ _ _ (fun m hm => by simp; omega)]
          | succ k =>
            obtain ⟨y, ob', k1, k2, k3, k4, k5, k6, k7, k8⟩ := h2 k o' (by simpa using hk)
            refine ⟨y, ob', by simpa using k1, k2, k3, k4, ?_, ?_, k7.trans r1, k8.trans r2⟩
            · rw [k5, applyTI_slots, show i + 1 + k = i + (k + 1) by omega]
              simp only [slotsL]
              rw [if_pos (by simp)]
            · rw [k6, applyTI_blks, show i + 1 + k = i + (k + 1) by omega]
              simp only [blksL]
              rw [if_pos (by simp)]
        · rw [h3, applyTI_slots]; simp [slotsL]
        · rw [h4, applyTI_blks]; simp [blksL]

theorem countP_lt {p p' : Nat → Bool} : ∀ (l : List Nat), (∀ x ∈ l, p' x = true → p x = true) → (∃ x ∈ l, p x = true ∧ p' x = false) → l.countP p' < l.countP p
  | [], _, h => by obtain ⟨x, hx, _⟩ := h; cases hx
  | y :: l, h1, h2 => by
    have hle : ∀ (l : List Nat), (∀ x ∈ l, p' x = true → p x = true) → l.countP p' ≤ l.countP p := by
      intro l
      induction l with
      | nil => intro _; simp
      | cons z l ih =>
        intro h
        have := ih (fun x hx => h x (by simp [hx]))
        simp only [List.countP_cons]
        have hz := h z (by simp)
        by_cases e : p' z = true
        · rw [if_pos e, if_pos (hz e)]; omega
        · rw [if_neg e]; omega
    simp only [List.countP_cons]
    obtain ⟨x, hx, px, px'⟩ := h2
    rcases List.mem_cons.1 hx with rfl | hx
    · have := hle l (fun z hz => h1 z (by simp [hz]))
      rw [px, px']
      simp
      omega
    · have := countP_lt l (fun z hz => h1 z (by simp [hz])) ⟨x, hx, px, px'⟩
      have hz := h1 y (by simp)
      by_cases e : p' y = true
      · rw [if_pos e, if_pos (hz e)]; omega
      · rw [if_neg e]; omega

theorem memN_of {x : Nat} {l : List Nat} (h : x ∈ l) : memN x l = true := List.any_eq_true.2 ⟨x, h, by simp⟩
theorem names_free {x : TI} {g : Nat} (h : names x g = false) : x.sv.free g = true ∧ ∀ k y, x.blk = some (k, y) → y.free g = true := by
  simp only [names, Bool.or_eq_false_iff, Bool.not_eq_false'] at h
  refine ⟨h.1, fun k y hb => ?_⟩
  have := h.2
  rw [hb] at this
  simpa using this

theorem any_sound {lay : Lay} (hl : LayOK P lay) {ops : List Oper} {hs : List (Nat × Hint)} {st st' : SState} {tr : List IT} {obs : List Ob} (he : evalOps lay ops hs 0 ops st = some (tr, obs, st')) (ho : AllOb P X.w0.heap.size obs)
    (hd : ∀ o ∈ ops, ∀ d, o.dst = some d → d < X.n) (hE : edgesAll 0 ops = true) (hI : initB st tr = true) (hA : allPairs (masks [] ops) 0 [] (tr.map fun t => (fpOf ops.toArray t, t)) = true)
    {Q : Exit → Act → World → Prop} (k : ∀ E' a' w', St X st' E' a' w' → Q .normal a' w') : ∀ (fuel : Nat) (listed : Array Bool) (E : Env) (a : Act) (w : World), listed.size = ops.length →
      (∀ j o, ops[j]? = some o → listed.getD j false = true → ∀ e ∈ o.after.toList, Region.binds .any e = true → listed.getD e.on false = true) → (List.range ops.length).countP (fun i => !listed.getD i false) ≤ fuel →
      StF X (slotsL (fun i => listed.getD i false) 0 tr (look st.slots)) (blksL (fun i => listed.getD i false) 0 tr (look st.m.blks)) st.m.rds st.m.grs E a w → wpAny P .any ops.toArray Q fuel listed a w := by
  obtain ⟨hlen, hspec, hf1, hf2, hf3, hf4⟩ := evalOps_spec ops 0 st tr obs st' he ho
  -- all done
  have hdone : ∀ (listed : Array Bool) (E : Env) (a : Act) (w : World), (∀ j, j < ops.length → listed.getD j false = true) →
      StF X (slotsL (fun i => listed.getD i false) 0 tr (look st.slots)) (blksL (fun i => listed.getD i false) 0 tr (look st.m.blks)) st.m.rds st.m.grs E a w → Q .normal a w := fun listed E a w hall S => by
    refine k E a w ?_
    unfold St
    rw [hf1, hf2, hf3, hf4]
    refine S.weak (fun t sv h => ?_) (fun g x h => ?_)
    · rw [← h]
      exact slotsL_ext tr 0 _ _ rfl (fun k x hk _ => by have := (List.getElem?_eq_some_iff.1 hk).1; rw [Nat.zero_add]; exact hall k (by omega))
    · rw [← h]
      exact blksL_ext tr 0 _ _ rfl (fun k x hk _ => by have := (List.getElem?_eq_some_iff.1 hk).1; rw [Nat.zero_add]; exact hall k (by omega))
  -- while something is left, something is ready
  have hready : ∀ (listed : Array Bool), listed.size = ops.length → Region.ready .any ops.toArray listed = [] → ∀ j, j < ops.length → listed.getD j false = true := fun listed hz hr j => by
    induction j using Nat.strongRecOn with
    | _ j ih =>
      intro hj
      cases hlj : listed.getD j false with
      | true => rfl
      | false =>
        exfalso
        have : j ∈ Region.ready .any ops.toArray listed := mem_ready.2 ⟨getD_in (by omega) hlj, ops[j], by simp [hj], fun e he hb => by
          have := edgesB_ok (by have := edgesAll_ok hE j ops[j] (by simp [hj]); rwa [Nat.zero_add] at this) e (by simpa using he) hb
          exact ih _ this (by omega)⟩
        rw [hr] at this
        cases this
  intro fuel
  induction fuel with
  | zero =>
    intro listed E a w hz hcl hc S
    have hall : ∀ j, j < ops.length → listed.getD j false = true := fun j hj => by
      have h0 : (List.range ops.length).countP (fun i => !listed.getD i false) = 0 := by omega
      have := List.countP_eq_zero.1 h0 j (List.mem_range.2 hj)
      simpa using this
    refine ⟨?_, hdone listed E a w hall S⟩
    cases hr : Region.ready .any ops.toArray listed with
    | nil => rfl
    | cons i r =>
      obtain ⟨h1, o, h2, _⟩ := mem_ready.1 (show i ∈ Region.ready .any ops.toArray listed from hr ▸ List.mem_cons_self)
      have hi : i < ops.length := by have := (Array.getElem?_eq_some_iff.1 h2).1; simpa using this
      have := hall i hi
      rw [getD_both h1] at this
      cases this
  | succ fuel ih =>
    intro listed E a w hz hcl hc S
    refine ⟨fun hr => hdone listed E a w (hready listed hz hr) S, fun j hj => ?_⟩
    obtain ⟨hun, o, hoj, hedges⟩ := mem_ready.1 hj
    have hoj' : ops[j]? = some o := by simpa using hoj
    have hjl : j < ops.length := (List.getElem?_eq_some_iff.1 hoj').1
    obtain ⟨x, ob, hx, hxo, hitem, hob, s1, s2, s3, s4⟩ := hspec j o hoj'
    subst hxo
    rw [Nat.zero_add] at s1 s2
    obtain ⟨n1, n2, n3⟩ := itemOf_new hitem
    have hLj : listed.getD j false = false := getD_both hun
    -- what is surely ahead of j has been done
    have hpre : ∀ i, (nthN (masks [] ops) j).testBit i = true → listed.getD i false = true := fun i hi =>
      (before_ok hE (L := fun i => listed.getD i false) hcl j x.o hoj' (fun e he hb => hedges e (by simpa using he) hb) i hi).1
    -- j is not surely ahead of what has been done
    have hpost : ∀ i y, tr[i]? = some y → listed.getD i false = true → (nthN (masks [] ops) i).testBit j = true → False := fun i y hy hLi hb => by
      have hi : i < ops.length := by have := (List.getElem?_eq_some_iff.1 hy).1; omega
      have := (before_ok hE (L := fun i => listed.getD i false) hcl i ops[i] (by simp [hi]) (fun e he hb => hcl i ops[i] (by simp [hi]) hLi e he hb) j hb).1
      rw [hLj] at this
      cases this
    have hpair : ∀ i y, tr[i]? = some y → ∀ m z, tr[m]? = some z → i < m → pairB (nthN (masks [] ops) m) i (fpOf ops.toArray y) (fpOf ops.toArray z) y z = true := fun i y hy m z hz him => by
      have := allPairs_ok (l := tr.map fun t => (fpOf ops.toArray t, t)) (done := []) (k := 0) rfl hA m (fpOf ops.toArray z, z) (by simp [hz]) i (fpOf ops.toArray y, y) (by omega) (by simp [hy])
      rwa [Nat.zero_add] at this
    -- an operation that was done and an operation behind it: apart
    have hlater : ∀ i y, tr[i]? = some y → j < i → listed.getD i false = true → (eqO x.x.dst y.x.dst || memO x.x.dst (y.o.looksAt ops.toArray) || memO y.x.dst (x.o.looksAt ops.toArray) || eqO (ghostOf x.x) (ghostOf y.x) || memO (ghostOf x.x) (touches (effS ops y.st y.o y.h) y.h y.o.op) || memO (ghostOf y.x) (touches (effS ops x.st x.o x.h) x.h x.o.op) || (match x.x.new, ghostOf x.x with | true, some g => names y.x g | _, _ => false)) = false := fun i y hy hji hLi => by
      have hp := hpair j x hx i y hy hji
      simp only [pairB, Bool.and_eq_true, Bool.or_eq_true, Bool.not_eq_true'] at hp
      rcases hp.1 with hb | hb
      · exact (hpost i y hy hLi hb).elim
      · exact hb
    have hearlier : ∀ i y, tr[i]? = some y → i < j → (listed.getD i false = true ∨ (eqO y.x.dst x.x.dst || memO y.x.dst (x.o.looksAt ops.toArray) || memO x.x.dst (y.o.looksAt ops.toArray) || eqO (ghostOf y.x) (ghostOf x.x) || memO (ghostOf y.x) (touches (effS ops x.st x.o x.h) x.h x.o.op) || memO (ghostOf x.x) (touches (effS ops y.st y.o y.h) y.h y.o.op) || (match y.x.new, ghostOf y.x with | true, some g => names x.x g | _, _ => false)) = false) ∧ (∀ g, x.x.new = true → ghostOf x.x = some g → names y.x g = false) := fun i y hy hij => by
      have hp := hpair i y hy j x hx hij
      simp only [pairB, Bool.and_eq_true, Bool.or_eq_true, Bool.not_eq_true'] at hp
      refine ⟨?_, fun g hn hg => ?_⟩
      · rcases hp.1 with hb | hb
        · exact .inl (hpre i hb)
        · exact .inr hb
      · have := hp.2
        simp only [fpOf, hn, hg] at this
        exact this
    obtain ⟨L, hL⟩ : ∃ L : Nat → Bool, L = fun i => listed.getD i false := ⟨_, rfl⟩
    -- the slots that it looks at
    have hop : ∀ t ∈ x.o.looksAt ops.toArray, slotsL L 0 tr (look st.slots) t = look x.st.slots t := fun t ht => by
      rw [s1]
      refine slotsL_ext tr 0 _ _ rfl (fun i y hy hdy => ?_)
      rw [Nat.zero_add, hL]
      by_cases hij : i < j
      · rcases (hearlier i y hy hij).1 with h1 | h1
        · exact h1.trans (decide_eq_true hij).symm
        · simp only [Bool.or_eq_false_iff] at h1
          have := h1.1.1.1.1.1.2
          rw [hdy] at this
          simp only [memO, memN_of ht] at this
          cases this
      · by_cases hji : j < i
        · cases hLi : listed.getD i false with
          | false => exact hLi.trans (decide_eq_false (by omega)).symm
          | true =>
            have h1 := hlater i y hy hji hLi
            simp only [Bool.or_eq_false_iff] at h1
            have := h1.1.1.1.1.2
            rw [hdy] at this
            simp only [memO, memN_of ht] at this
            cases this
        · obtain rfl : i = j := by omega
          exact hLj.trans (decide_eq_false (by omega)).symm
    have hbl : ∀ g ∈ touches (effS ops x.st x.o x.h) x.h x.o.op, blksL L 0 tr (look st.m.blks) g = look x.st.m.blks g := fun g hg => by
      rw [s2]
      refine blksL_ext tr 0 _ _ rfl (fun i y hy hdy => ?_)
      rw [Nat.zero_add, hL]
      by_cases hij : i < j
      · rcases (hearlier i y hy hij).1 with h1 | h1
        · exact h1.trans (decide_eq_true hij).symm
        · simp only [Bool.or_eq_false_iff] at h1
          have := h1.1.1.2
          rw [hdy] at this
          simp only [memO, memN_of hg] at this
          cases this
      · by_cases hji : j < i
        · cases hLi : listed.getD i false with
          | false => exact hLi.trans (decide_eq_false (by omega)).symm
          | true =>
            have h1 := hlater i y hy hji hLi
            simp only [Bool.or_eq_false_iff] at h1
            have := h1.1.2
            rw [hdy] at this
            simp only [memO, memN_of hg] at this
            cases this
        · obtain rfl : i = j := by omega
          exact hLj.trans (decide_eq_false (by omega)).symm
    rw [← hL] at S
    have hwp : (if Region.wanted x.o (yielded ops.toArray a.tmps) then x.o.wp P a w (wpAny P .any ops.toArray Q fuel (listed.setIfInBounds j true)) Q else wpAny P .any ops.toArray Q fuel (listed.setIfInBounds j true) (a.put x.o.dst undef) w) := by
      refine item_sound (X := X) (E := E) hl hitem hob (by rw [s3, s4]; exact S) hop hbl (fun g y hb hn => ?_) (fun g y hb hn => ?_) (fun d hd' => hd x.o (List.mem_of_getElem? hoj') d hd') (fun E' a' w' S' => ?_)
      · -- a new block's number is new
        obtain ⟨f1, f2⟩ := n2 g y hb hn
        have hgh : ghostOf x.x = some g := by simp [ghostOf, hb]
        -- whatever was done does not name it
        have hnm : ∀ i z, tr[i]? = some z → L i = true → names z.x g = false ∧ ghostOf z.x ≠ some g := fun i z hz hLi => by
          rw [hL] at hLi
          by_cases hij : i < j
          · refine ⟨(hearlier i z hz hij).2 g hn hgh, fun hzg => ?_⟩
            -- it would be in the state ahead of j
            have : look x.st.m.blks g ≠ none := by
              rw [s2]
              intro hnone
              have key : ∀ (l : List IT) (m : Nat) (f : BF), (∃ k y, l[k]? = some y ∧ m + k < j ∧ ghostOf y.x = some g) → blksL (fun m => decide (m < j)) m l f g ≠ none := by
                intro l
                induction l with
                | nil => rintro m f ⟨k, y, hy, _⟩; simp at hy
                | cons u l ihl =>
                  rintro m f ⟨k, y, hy, hmk, hg⟩
                  simp only [blksL]
                  have keep : ∀ (l : List IT) (m : Nat) (f : BF), f g ≠ none → blksL (fun m => decide (m < j)) m l f g ≠ none := by
                    intro l
                    induction l with
                    | nil => intro m f h; exact h
                    | cons u l ihl =>
                      intro m f h
                      simp only [blksL]
                      refine ihl _ _ ?_
                      split
                      · rw [blkF_at]
                        split
                        · split
                          · simp
                          · exact h
                        · exact h
                      · exact h
                  cases k with
                  | zero =>
                    simp only [List.getElem?_cons_zero, Option.some.injEq] at hy
                    subst hy
                    refine keep l _ _ ?_
                    rw [if_pos (by simp; omega)]
                    unfold ghostOf at hg
                    rw [blkF_at]
                    cases hb : u.x.blk with
                    | none => rw [hb] at hg; simp at hg
                    | some b =>
                      rw [hb] at hg
                      simp only [Option.some.injEq] at hg
                      simp [hg]
                  | succ k => exact ihl (m + 1) _ ⟨k, y, by simpa using hy, by omega, hg⟩
              exact key tr 0 _ ⟨i, z, hz, by omega, hzg⟩ hnone
            exact this (freshBl_ok f2).1
          · by_cases hji : j < i
            · have h1 := hlater i z hz hji hLi
              simp only [Bool.or_eq_false_iff] at h1
              refine ⟨?_, fun hzg => ?_⟩
              · have := h1.2
                simp only [hn, hgh] at this
                exact this
              · have := h1.1.1.1.2
                simp only [hgh, hzg, eqO] at this
                simp at this
            · obtain rfl : i = j := by omega
              exact absurd (hLj.symm.trans hLi) (by simp)
        refine ⟨?_, fun t sv ht => ?_, fun g' y' hg' => ?_⟩
        · cases hbg : blksL L 0 tr (look st.m.blks) g with
          | none => rfl
          | some y' =>
            exfalso
            rcases blksL_from tr 0 L _ g y' hbg with h1 | ⟨i, z, hz, hLi, hzb⟩
            · -- it was there at first: then it is there ahead of j
              have keep : ∀ (l : List IT) (m : Nat) (f : BF), f g ≠ none → blksL (fun m => decide (m < j)) m l f g ≠ none := by
                intro l
                induction l with
                | nil => intro m f h; exact h
                | cons u l ihl =>
                  intro m f h
                  simp only [blksL]
                  refine ihl _ _ ?_
                  split
                  · rw [blkF_at]
                    split
                    · split
                      · simp
                      · exact h
                    · exact h
                  · exact h
              have := keep tr 0 (look st.m.blks) (by rw [h1]; simp)
              rw [← s2] at this
              exact this (freshBl_ok f2).1
            · rw [Nat.zero_add] at hLi
              exact (hnm i z hz hLi).2 (by simp [ghostOf, hzb])
        · rcases slotsL_from tr 0 L _ t sv ht with h1 | ⟨i, z, hz, hLi, rfl⟩
          · exact freshS_ok (initB_ok hI x (List.mem_of_getElem? hx) hn g hgh).1 t sv h1
          · rw [Nat.zero_add] at hLi
            exact (names_free (hnm i z hz hLi).1).1
        · rcases blksL_from tr 0 L _ g' y' hg' with h1 | ⟨i, z, hz, hLi, hzb⟩
          · exact (freshBl_ok (initB_ok hI x (List.mem_of_getElem? hx) hn g hgh).2).2 g' y' h1
          · rw [Nat.zero_add] at hLi
            exact (names_free (hnm i z hz hLi).1).2 g' y' hzb
      · obtain ⟨t, cs, cs', c0, c1, c2⟩ := n3 g y hb hn
        exact ⟨t, cs, cs', c0, (hbl g c2).trans c1, c2⟩
      · refine ih (listed.setIfInBounds j true) E' a' w' (by simpa using hz) (fun i o hi hLi e he hb => ?_) ?_ ?_
        · by_cases hij : j = i
          · subst hij
            have : o = x.o := by rw [hoj'] at hi; exact (Option.some.inj hi).symm
            subst this
            exact getD_set_true (hedges e (by simpa using he) hb)
          · rw [getD_set_ne false hij] at hLi
            exact getD_set_true (hcl i o hi hLi e he hb)
        · have : (List.range ops.length).countP (fun i => !(listed.setIfInBounds j true).getD i false) < (List.range ops.length).countP (fun i => !listed.getD i false) := by
            refine countP_lt _ (fun i _ hi => ?_) ⟨j, List.mem_range.2 hjl, by simp only [hLj]; rfl, ?_⟩
            · by_cases hij : j = i
              · subst hij; simp only [hLj]; rfl
              · rw [getD_set_ne false hij] at hi; exact hi
            · simp [hz, hjl]
          omega
        · have hset : ∀ i, i ≠ j → (listed.setIfInBounds j true).getD i false = L i := fun i hi => by rw [hL, getD_set_ne false (fun e => hi e.symm)]
          have hsj : (listed.setIfInBounds j true).getD j false = true := by simp [hz, hjl]
          have hLj' : L j = false := by rw [hL]; exact hLj
          rw [slotsL_set (L := L) (L' := fun i => (listed.setIfInBounds j true).getD i false) (j := j) (xj := x) hLj' hsj hset tr 0 _ (Nat.zero_le _) (by simpa using hx) (fun i y hy hji hLi t hdt hxt => by
              rw [Nat.zero_add] at hji hLi
              rw [hL] at hLi
              have h1 := hlater i y hy hji hLi
              simp only [Bool.or_eq_false_iff] at h1
              have := h1.1.1.1.1.1.1
              simp [eqO, hdt, hxt] at this),
            blksL_set (L := L) (L' := fun i => (listed.setIfInBounds j true).getD i false) (j := j) (xj := x) hLj' hsj hset tr 0 _ (Nat.zero_le _) (by simpa using hx) (fun i y hy hji hLi t hdt hxt => by
              rw [Nat.zero_add] at hji hLi
              rw [hL] at hLi
              have h1 := hlater i y hy hji hLi
              simp only [Bool.or_eq_false_iff] at h1
              have := h1.1.1.1.2
              simp [eqO, hdt, hxt] at this)]
          rw [s3, s4] at S'
          exact S'
    unfold wpOp
    simp only [hoj]
    split
    · rename_i hw; rw [if_pos hw] at hwp; exact .inl hwp
    · rename_i hw; rw [if_neg hw] at hwp; exact hwp

theorem sym_region {lay : Lay} (hl : LayOK P lay) (hm : P.follows .mixedOrders = true) {id : Nat} {ops : List Oper} {draw : Bool} (hs : List (Nat × Hint)) (ks gs : List Nat) {st : SState} (st' : SState) (obs : List Ob) {Q : Exit → Act → World → Prop} (hn : dstB X.n ops = true)
    (hev : evalR lay ops hs ks gs st = some (st', obs)) (hdr : (!draw || orderB lay ops hs st) = true) (ho : AllOb P X.w0.heap.size obs) (S : St X st E a w) (k : ∀ E' a' w', St X st' E' a' w' → Q .normal a' w') : (Code.region id ops.toArray draw).wp P Q a w := by
  cases draw with
  | false => exact sym_region_text hl hs ks gs st' obs hn hev ho S k
  | true =>
    simp only [Bool.not_true, Bool.false_or] at hdr
    unfold evalR at hev
    unfold orderB at hdr
    cases h1 : evalOps lay ops hs 0 ops st with
    | none => rw [h1] at hev; simp at hev
    | some r =>
      obtain ⟨tr, obs2, st2⟩ := r
      rw [h1] at hev hdr
      simp only [Option.some.injEq, Prod.mk.injEq] at hev
      simp only [Bool.and_eq_true] at hdr
      obtain ⟨rfl, rfl⟩ := hev
      obtain ⟨⟨d1, d2⟩, d3⟩ := hdr
      have hlen := (evalOps_spec (P := P) (B := X.w0.heap.size) ops 0 st tr obs2 st2 h1 ho).1
      refine wp_region_any hm ?_
      have S' : St X st E a { w with drawn := w.drawn + 1 } := StF.later S ⟨rfl, rfl, rfl, Nat.le_refl _, fun _ _ => rfl⟩
      refine any_sound hl h1 ho (dstB_ok hn) d1 d2 d3 (fun E' a' w' S' => k E' a' w' (S'.weak (fun t sv h => pickL_sub _ _ _ _ h) (fun g x h => pickL_sub _ _ _ _ h))) _ _ E a _ (by simp) (fun j o _ h => ?_) ?_ ?_
      · rw [getD_replicate_false] at h; cases h
      · refine Nat.le_trans List.countP_le_length (by simp)
      · rw [slotsL_none _ _ _ _ (fun k _ => getD_replicate_false _ _), blksL_none _ _ _ _ (fun k _ => getD_replicate_false _ _)]
        exact S'
end Go.Proofs.Ytlcccomdijdkaaa
