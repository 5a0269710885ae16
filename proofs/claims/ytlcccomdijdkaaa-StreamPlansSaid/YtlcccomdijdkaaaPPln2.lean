import Derived.StillTail
import Derived.Test.YtlcccomdijdkaaaPPln1
import Derived.IntWalk
import Derived.Maps.AppendAt
import Derived.Test.YtlcccomdijdkaaaProg
import Derived.ProofKit
import Derived.SizedLaws
import Derived.OpenShut
import Derived.Deep.Slices
import Derived.Lib.SmallJoins
import Derived.RangeFuncNested
import Derived.RangeFuncBound
import Derived.RangeFuncCalls
import Derived.RangeFuncLeaves
import Derived.OwnWalkIn
import Derived.TacticsInMore
import Derived.LoopNIn
import Derived.LoopIn
import Derived.Maps.OwnIn
import Derived.Laws.AppendOwnNone
import Derived.Laws.Slices
namespace Go.Proofs.Ytlcccomdijdkaaa
open Go.RowKit

variable {P : Program} {X : Ctx} {E : Env} {a : Act} {w : World}

theorem evalOps_spec {lay : Lay} {ops : List Oper} {hs : List (Nat × Hint)} {B : Nat} : ∀ (l : List Oper) (i : Nat) (st : SState) (tr : List IT) (obs : List Ob) (st' : SState), evalOps lay ops hs i l st = some (tr, obs, st') → AllOb P B obs →
    tr.length = l.length ∧ (∀ k o, l[k]? = some o → ∃ x ob, tr[k]? = some x ∧ x.o = o ∧ itemOf lay ops x.st o x.h = some (x.x, ob) ∧ AllOb P B ob ∧
      look x.st.slots = slotsL (fun m => decide (m < i + k)) i tr (look st.slots) ∧ look x.st.m.blks = blksL (fun m => decide (m < i + k)) i tr (look st.m.blks) ∧ x.st.m.rds = st.m.rds ∧ x.st.m.grs = st.m.grs) ∧
    look st'.slots = slotsL (fun _ => true) i tr (look st.slots) ∧ look st'.m.blks = blksL (fun _ => true) i tr (look st.m.blks) ∧ st'.m.rds = st.m.rds ∧ st'.m.grs = st.m.grs
  | [], i, st, tr, obs, st', he, _ => by
    simp only [evalOps, Option.some.injEq, Prod.mk.injEq] at he
    obtain ⟨rfl, rfl, rfl⟩ := he
    exact ⟨rfl, fun k o h => by simp at h, rfl, rfl, rfl, rfl⟩
  | o :: l, i, st, tr, obs, st', he, ho => by
    simp only [evalOps] at he
    cases hi : itemOf lay ops st o (hintAt hs i) with
    | none => rw [hi] at he; simp at he
    | some r =>
      obtain ⟨x, ob⟩ := r
      rw [hi] at he
      simp only at he
      cases hr : evalOps lay ops hs (i + 1) l (applyTI st x) with
      | none => rw [hr] at he; simp at he
      | some r2 =>
        obtain ⟨tr2, obs2, st2⟩ := r2
        rw [hr] at he
        simp only [Option.some.injEq, Prod.mk.injEq] at he
        obtain ⟨rfl, rfl, rfl⟩ := he
        obtain ⟨o1, o2⟩ := AllOb.append ho
        obtain ⟨h1, h2, h3, h4, h5, h6⟩ := evalOps_spec l (i + 1) _ _ _ _ hr o2
        obtain ⟨r1, r2⟩ := applyTI_rest st x
        refine ⟨by simp [h1], fun k o' hk => ?_, ?_, ?_, h5.trans r1, h6.trans r2⟩
        · cases k with
          | zero =>
            simp only [List.getElem?_cons_zero, Option.some.injEq] at hk
            subst hk
            refine ⟨_, ob, rfl, rfl, hi, o1, ?_, ?_, rfl, rfl⟩
            · rw [slotsL_none _ _ _ _ (fun m hm => by simp; omega)]
            · rw [blksL_none _ _ _ _ (fun m hm => by simp; omega)]
          | succ k =>
            obtain ⟨y, ob', k1, k2, k3, k4, k5, k6, k7, k8⟩ := h2 k o' (by simpa using hk)
            refine ⟨y, ob', by simpa using k1, k2, k3, k4, ?_, ?_, k7.trans r1, k8.trans r2⟩
            · rw [k5, applyTI_slots, show i + 1 + k = i + (k + 1) by omega]
              simp only [slotsL]
              rw [if_pos (by simp)]
            · rw [k6, applyTI_blks, show i + 1 + k = i + (k + 1) by omega]
              simp only [blksL]
              rw [if_pos (by simp)]
        · rw [h3, applyTI_slots]; simp [slotsL]
        · rw [h4, applyTI_blks]; simp [blksL]

theorem countP_lt {p p' : Nat → Bool} : ∀ (l : List Nat), (∀ x ∈ l, p' x = true → p x = true) → (∃ x ∈ l, p x = true ∧ p' x = false) → l.countP p' < l.countP p
  | [], _, h => by obtain ⟨x, hx, _⟩ := h; cases hx
  | y :: l, h1, h2 => by
    have hle : ∀ (l : List Nat), (∀ x ∈ l, p' x = true → p x = true) → l.countP p' ≤ l.countP p := by
      intro l
      induction l with
      | nil => intro _; simp
      | cons z l ih =>
        intro h
        have := ih (fun x hx => h x (by simp [hx]))
        simp only [List.countP_cons]
        have hz := h z (by simp)
        by_cases e : p' z = true
        · rw [if_pos e, if_pos (hz e)]; omega
        · rw [if_neg e]; omega
    simp only [List.countP_cons]
    obtain ⟨x, hx, px, px'⟩ := h2
    rcases List.mem_cons.1 hx with rfl | hx
    · have := hle l (fun z hz => h1 z (by simp [hz]))
      rw [px, px']
      simp
      omega
    · have := countP_lt l (fun z hz => h1 z (by simp [hz])) ⟨x, hx, px, px'⟩
      have hz := h1 y (by simp)
      by_cases e : p' y = true
      · rw [if_pos e, if_pos (hz e)]; omega
      · rw [if_neg e]; omega

theorem memN_of {x : Nat} {l : List Nat} (h : x ∈ l) : memN x l = true := List.any_eq_true.2 ⟨x, h, by simp⟩
theorem names_free {x : TI} {g : Nat} (h : names x g = false) : x.sv.free g = true ∧ ∀ k y, x.blk = some (k, y) → y.free g = true := by
  simp only [names, Bool.or_eq_false_iff, Bool.not_eq_false'] at h
  refine ⟨h.1, fun k y hb => ?_⟩
  have := h.2
  rw [hb] at this
  simpa using this

theorem any_sound {lay : Lay} (hl : LayOK P lay) {ops : List Oper} {hs : List (Nat × Hint)} {st st' : SState} {tr : List IT} {obs : List Ob} (he : evalOps lay ops hs 0 ops st = some (tr, obs, st')) (ho : AllOb P X.w0.heap.size obs)
    (hd : ∀ o ∈ ops, ∀ d, o.dst = some d → d < X.n) (hE : edgesAll 0 ops = true) (hI : initB st tr = true) (hA : allPairs (masks [] ops) 0 [] (tr.map fun t => (fpOf ops.toArray t, t)) = true)
    {Q : Exit → Act → World → Prop} (k : ∀ E' a' w', St X st' E' a' w' → Q .normal a' w') : ∀ (fuel : Nat) (listed : Array Bool) (E : Env) (a : Act) (w : World), listed.size = ops.length →
      (∀ j o, ops[j]? = some o → listed.getD j false = true → ∀ e ∈ o.after.toList, Region.binds .any e = true → listed.getD e.on false = true) → (List.range ops.length).countP (fun i => !listed.getD i false) ≤ fuel →
      StF X (slotsL (fun i => listed.getD i false) 0 tr (look st.slots)) (blksL (fun i => listed.getD i false) 0 tr (look st.m.blks)) st.m.rds st.m.grs E a w → wpAny P .any ops.toArray Q fuel listed a w := by
  obtain ⟨hlen, hspec, hf1, hf2, hf3, hf4⟩ := evalOps_spec ops 0 st tr obs st' he ho
  -- all done
  have hdone : ∀ (listed : Array Bool) (E : Env) (a : Act) (w : World), (∀ j, j < ops.length → listed.getD j false = true) →
      StF X (slotsL (fun i => listed.getD i false) 0 tr (look st.slots)) (blksL (fun i => listed.getD i false) 0 tr (look st.m.blks)) st.m.rds st.m.grs E a w → Q .normal a w := fun listed E a w hall S => by
    refine k E a w ?_
    unfold St
    rw [hf1, hf2, hf3, hf4]
    refine S.weak (fun t sv h => ?_) (fun g x h => ?_)
    · rw [← h]
      exact slotsL_ext tr 0 _ _ rfl (fun k x hk _ => by have := (List.getElem?_eq_some_iff.1 hk).1; rw [Nat.zero_add]; exact hall k (by omega))
    · rw [← h]
      exact blksL_ext tr 0 _ _ rfl (fun k x hk _ => by have := (List.getElem?_eq_some_iff.1 hk).1; rw [Nat.zero_add]; exact hall k (by omega))
  -- while something is left, something is ready
  have hready : ∀ (listed : Array Bool), listed.size = ops.length → Region.ready .any ops.toArray listed = [] → ∀ j, j < ops.length → listed.getD j false = true := fun listed hz hr j => by
    induction j using Nat.strongRecOn with
    | _ j ih =>
      intro hj
      cases hlj : listed.getD j false with
      | true => rfl
      | false =>
        exfalso
        have : j ∈ Region.ready .any ops.toArray listed := mem_ready.2 ⟨getD_in (by omega) hlj, ops[j], by simp [hj], fun e he hb => by
          have := edgesB_ok (by have := edgesAll_ok hE j ops[j] (by simp [hj]); rwa [Nat.zero_add] at this) e (by simpa using he) hb
          exact ih _ this (by omega)⟩
        rw [hr] at this
        cases this
  intro fuel
  induction fuel with
  | zero =>
    intro listed E a w hz hcl hc S
    have hall : ∀ j, j < ops.length → listed.getD j false = true := fun j hj => by
      have h0 : (List.range ops.length).countP (fun i => !listed.getD i false) = 0 := by omega
      have := List.countP_eq_zero.1 h0 j (List.mem_range.2 hj)
      simpa using this
    refine ⟨?_, hdone listed E a w hall S⟩
    cases hr : Region.ready .any ops.toArray listed with
    | nil => rfl
    | cons i r =>
      obtain ⟨h1, o, h2, _⟩ := mem_ready.1 (show i ∈ Region.ready .any ops.toArray listed from hr ▸ List.mem_cons_self)
      have hi : i < ops.length := by have := (Array.getElem?_eq_some_iff.1 h2).1; simpa using this
      have := hall i hi
      rw [getD_both h1] at this
      cases this
  | succ fuel ih =>
    intro listed E a w hz hcl hc S
    refine ⟨fun hr => hdone listed E a w (hready listed hz hr) S, fun j hj => ?_⟩
    obtain ⟨hun, o, hoj, hedges⟩ := mem_ready.1 hj
    have hoj' : ops[j]? = some o := by simpa using hoj
    have hjl : j < ops.length := (List.getElem?_eq_some_iff.1 hoj').1
    obtain ⟨x, ob, hx, hxo, hitem, hob, s1, s2, s3, s4⟩ := hspec j o hoj'
    subst hxo
    rw [Nat.zero_add] at s1 s2
    obtain ⟨n1, n2, n3⟩ := itemOf_new hitem
    have hLj : listed.getD j false = false := getD_both hun
    -- what is surely ahead of j has been done
    have hpre : ∀ i, (nthN (masks [] ops) j).testBit i = true → listed.getD i false = true := fun i hi =>
      (before_ok hE (L := fun i => listed.getD i false) hcl j x.o hoj' (fun e he hb => hedges e (by simpa using he) hb) i hi).1
    -- j is not surely ahead of what has been done
    have hpost : ∀ i y, tr[i]? = some y → listed.getD i false = true → (nthN (masks [] ops) i).testBit j = true → False := fun i y hy hLi hb => by
      have hi : i < ops.length := by have := (List.getElem?_eq_some_iff.1 hy).1; omega
      have := (before_ok hE (L := fun i => listed.getD i false) hcl i ops[i] (by simp [hi]) (fun e he hb => hcl i ops[i] (by simp [hi]) hLi e he hb) j hb).1
      rw [hLj] at this
      cases this
    have hpair : ∀ i y, tr[i]? = some y → ∀ m z, tr[m]? = some z → i < m → pairB (nthN (masks [] ops) m) i (fpOf ops.toArray y) (fpOf ops.toArray z) y z = true := fun i y hy m z hz him => by
      have := allPairs_ok (l := tr.map fun t => (fpOf ops.toArray t, t)) (done := []) (k := 0) rfl hA m (fpOf ops.toArray z, z) (by simp [hz]) i (fpOf ops.toArray y, y) (by omega) (by simp [hy])
      rwa [Nat.zero_add] at this
    -- an operation that was done and an operation behind it: apart
    have hlater : ∀ i y, tr[i]? = some y → j < i → listed.getD i false = true → (eqO x.x.dst y.x.dst || memO x.x.dst (y.o.looksAt ops.toArray) || memO y.x.dst (x.o.looksAt ops.toArray) || eqO (ghostOf x.x) (ghostOf y.x) || memO (ghostOf x.x) (touches (effS ops y.st y.o y.h) y.h y.o.op) || memO (ghostOf y.x) (touches (effS ops x.st x.o x.h) x.h x.o.op) || (match x.x.new, ghostOf x.x with | true, some g => names y.x g | _, _ => false)) = false := fun i y hy hji hLi => by
      have hp := hpair j x hx i y hy hji
      simp only [pairB, Bool.and_eq_true, Bool.or_eq_true, Bool.not_eq_true'] at hp
      rcases hp.1 with hb | hb
      · exact (hpost i y hy hLi hb).elim
      · exact hb
    have hearlier : ∀ i y, tr[i]? = some y → i < j → (listed.getD i false = true ∨ (eqO y.x.dst x.x.dst || memO y.x.dst (x.o.looksAt ops.toArray) || memO x.x.dst (y.o.looksAt ops.toArray) || eqO (ghostOf y.x) (ghostOf x.x) || memO (ghostOf y.x) (touches (effS ops x.st x.o x.h) x.h x.o.op) || memO (ghostOf x.x) (touches (effS ops y.st y.o y.h) y.h y.o.op) || (match y.x.new, ghostOf y.x with | true, some g => names x.x g | _, _ => false)) = false) ∧ (∀ g, x.x.new = true → ghostOf x.x = some g → names y.x g = false) := fun i y hy hij => by
      have hp := hpair i y hy j x hx hij
      simp only [pairB, Bool.and_eq_true, Bool.or_eq_true, Bool.not_eq_true'] at hp
      refine ⟨?_, fun g hn hg => ?_⟩
      · rcases hp.1 with hb | hb
        · exact .inl (hpre i hb)
        · exact .inr hb
      · have := hp.2
        simp only [fpOf, hn, hg] at this
        exact this
    obtain ⟨L, hL⟩ : ∃ L : Nat → Bool, L = fun i => listed.getD i false := ⟨_, rfl⟩
    -- the slots that it looks at
    have hop : ∀ t ∈ x.o.looksAt ops.toArray, slotsL L 0 tr (look st.slots) t = look x.st.slots t := fun t ht => by
      rw [s1]
      refine slotsL_ext tr 0 _ _ rfl (fun i y hy hdy => ?_)
      rw [Nat.zero_add, hL]
      by_cases hij : i < j
      · rcases (hearlier i y hy hij).1 with h1 | h1
        · exact h1.trans (decide_eq_true hij).symm
        · simp only [Bool.or_eq_false_iff] at h1
          have := h1.1.1.1.1.1.2
          rw [hdy] at this
          simp only [memO, memN_of ht] at this
          cases this
      · by_cases hji : j < i
        · cases hLi : listed.getD i false with
          | false => exact hLi.trans (decide_eq_false (by omega)).symm
          | true =>
            have h1 := hlater i y hy hji hLi
            simp only [Bool.or_eq_false_iff] at h1
            have := h1.1.1.1.1.2
            rw [hdy] at this
            simp only [memO, memN_of ht] at this
            cases this
        · obtain rfl : i = j := by omega
          exact hLj.trans (decide_eq_false (by omega)).symm
    have hbl : ∀ g ∈ touches (effS ops x.st x.o x.h) x.h x.o.op, blksL L 0 tr (look st.m.blks) g = look x.st.m.blks g := fun g hg => by
      rw [s2]
      refine blksL_ext tr 0 _ _ rfl (fun i y hy hdy => ?_)
      rw [Nat.zero_add, hL]
      by_cases hij : i < j
      · rcases (hearlier i y hy hij).1 with h1 | h1
        · exact h1.trans (decide_eq_true hij).symm
        · simp only [Bool.or_eq_false_iff] at h1
          have := h1.1.1.2
          rw [hdy] at this
          simp only [memO, memN_of hg] at this
          cases this
      · by_cases hji : j < i
        · cases hLi : listed.getD i false with
          | false => exact hLi.trans (decide_eq_false (by omega)).symm
          | true =>
            have h1 := hlater i y hy hji hLi
            simp only [Bool.or_eq_false_iff] at h1
            have := h1.1.2
            rw [hdy] at this
            simp only [memO, memN_of hg] at this
            cases this
        · obtain rfl : i = j := by omega
          exact hLj.trans (decide_eq_false (by omega)).symm
    rw [← hL] at S
    have hwp : (if Region.wanted x.o (yielded ops.toArray a.tmps) then x.o.wp P a w (wpAny P .any ops.toArray Q fuel (listed.setIfInBounds j true)) Q else wpAny P .any ops.toArray Q fuel (listed.setIfInBounds j true) (a.put x.o.dst undef) w) := by
      refine item_sound (X := X) (E := E) hl hitem hob (by rw [s3, s4]; exact S) hop hbl (fun g y hb hn => ?_) (fun g y hb hn => ?_) (fun d hd' => hd x.o (List.mem_of_getElem? hoj') d hd') (fun E' a' w' S' => ?_)
      · -- a new block's number is new
        obtain ⟨f1, f2⟩ := n2 g y hb hn
        have hgh : ghostOf x.x = some g := by simp [ghostOf, hb]
        -- whatever was done does not name it
        have hnm : ∀ i z, tr[i]? = some z → L i = true → names z.x g = false ∧ ghostOf z.x ≠ some g := fun i z hz hLi => by
          rw [hL] at hLi
          by_cases hij : i < j
          · refine ⟨(hearlier i z hz hij).2 g hn hgh, fun hzg => ?_⟩
            -- it would be in the state ahead of j
            have : look x.st.m.blks g ≠ none := by
              rw [s2]
              intro hnone
              have key : ∀ (l : List IT) (m : Nat) (f : BF), (∃ k y, l[k]? = some y ∧ m + k < j ∧ ghostOf y.x = some g) → blksL (fun m => decide (m < j)) m l f g ≠ none := by
                intro l
                induction l with
                | nil => rintro m f ⟨k, y, hy, _⟩; simp at hy
                | cons u l ihl =>
                  rintro m f ⟨k, y, hy, hmk, hg⟩
                  simp only [blksL]
                  have keep : ∀ (l : List IT) (m : Nat) (f : BF), f g ≠ none → blksL (fun m => decide (m < j)) m l f g ≠ none := by
                    intro l
                    induction l with
                    | nil => intro m f h; exact h
                    | cons u l ihl =>
                      intro m f h
                      simp only [blksL]
                      refine ihl _ _ ?_
                      split
                      · rw [blkF_at]
                        split
                        · split
                          · simp
                          · exact h
                        · exact h
                      · exact h
                  cases k with
                  | zero =>
                    simp only [List.getElem?_cons_zero, Option.some.injEq] at hy
                    subst hy
                    refine keep l _ _ ?_
                    rw [if_pos (by simp; omega)]
                    unfold ghostOf at hg
                    rw [blkF_at]
                    cases hb : u.x.blk with
                    | none => rw [hb] at hg; simp at hg
                    | some b =>
                      rw [hb] at hg
                      simp only [Option.some.injEq] at hg
                      simp [hg]
                  | succ k => exact ihl (m + 1) _ ⟨k, y, by simpa using hy, by omega, hg⟩
              exact key tr 0 _ ⟨i, z, hz, by omega, hzg⟩ hnone
            exact this (freshBl_ok f2).1
          · by_cases hji : j < i
            · have h1 := hlater i z hz hji hLi
              simp only [Bool.or_eq_false_iff] at h1
              refine ⟨?_, fun hzg => ?_⟩
              · have := h1.2
                simp only [hn, hgh] at this
                exact this
              · have := h1.1.1.1.2
                simp only [hgh, hzg, eqO] at this
                simp at this
            · obtain rfl : i = j := by omega
              exact absurd (hLj.symm.trans hLi) (by simp)
        refine ⟨?_, fun t sv ht => ?_, fun g' y' hg' => ?_⟩
        · cases hbg : blksL L 0 tr (look st.m.blks) g with
          | none => rfl
          | some y' =>
            exfalso
            rcases blksL_from tr 0 L _ g y' hbg with h1 | ⟨i, z, hz, hLi, hzb⟩
            · -- it was there at first: then it is there ahead of j
              have keep : ∀ (l : List IT) (m : Nat) (f : BF), f g ≠ none → blksL (fun m => decide (m < j)) m l f g ≠ none := by
                intro l
                induction l with
                | nil => intro m f h; exact h
                | cons u l ihl =>
                  intro m f h
                  simp only [blksL]
                  refine ihl _ _ ?_
                  split
                  · rw [blkF_at]
                    split
                    · split
                      · simp
                      · exact h
                    · exact h
                  · exact h
              have := keep tr 0 (look st.m.blks) (by rw [h1]; simp)
              rw [← s2] at this
              exact this (freshBl_ok f2).1
            · rw [Nat.zero_add] at hLi
              exact (hnm i z hz hLi).2 (by simp [ghostOf, hzb])
        · rcases slotsL_from tr 0 L _ t sv ht with h1 | ⟨i, z, hz, hLi, rfl⟩
          · exact freshS_ok (initB_ok hI x (List.mem_of_getElem? hx) hn g hgh).1 t sv h1
          · rw [Nat.zero_add] at hLi
            exact (names_free (hnm i z hz hLi).1).1
        · rcases blksL_from tr 0 L _ g' y' hg' with h1 | ⟨i, z, hz, hLi, hzb⟩
          · exact (freshBl_ok (initB_ok hI x (List.mem_of_getElem? hx) hn g hgh).2).2 g' y' h1
          · rw [Nat.zero_add] at hLi
            exact (names_free (hnm i z hz hLi).1).2 g' y' hzb
      · obtain ⟨t, cs, cs', c0, c1, c2⟩ := n3 g y hb hn
        exact ⟨t, cs, cs', c0, (hbl g c2).trans c1, c2⟩
      · refine ih (listed.setIfInBounds j true) E' a' w' (by simpa using hz) (fun i o hi hLi e he hb => ?_) ?_ ?_
        · by_cases hij : j = i
          · subst hij
            have : o = x.o := by rw [hoj'] at hi; exact (Option.some.inj hi).symm
            subst this
            exact getD_set_true (hedges e (by simpa using he) hb)
          · rw [getD_set_ne false hij] at hLi
            exact getD_set_true (hcl i o hi hLi e he hb)
        · have : (List.range ops.length).countP (fun i => !(listed.setIfInBounds j true).getD i false) < (List.range ops.length).countP (fun i => !listed.getD i false) := by
            refine countP_lt _ (fun i _ hi => ?_) ⟨j, List.mem_range.2 hjl, by simp only [hLj]; rfl, ?_⟩
            · by_cases hij : j = i
              · subst hij; simp only [hLj]; rfl
              · rw [getD_set_ne false hij] at hi; exact hi
            · simp [hz, hjl]
          omega
        · have hset : ∀ i, i ≠ j → (listed.setIfInBounds j true).getD i false = L i := fun i hi => by rw [hL, getD_set_ne false (fun e => hi e.symm)]
          have hsj : (listed.setIfInBounds j true).getD j false = true := by simp [hz, hjl]
          have hLj' : L j = false := by rw [hL]; exact hLj
          rw [slotsL_set (L := L) (L' := fun i => (listed.setIfInBounds j true).getD i false) (j := j) (xj := x) hLj' hsj hset tr 0 _ (Nat.zero_le _) (by simpa using hx) (fun i y hy hji hLi t hdt hxt => by
              rw [Nat.zero_add] at hji hLi
              rw [hL] at hLi
              have h1 := hlater i y hy hji hLi
              simp only [Bool.or_eq_false_iff] at h1
              have := h1.1.1.1.1.1.1
              simp [eqO, hdt, hxt] at this),
            blksL_set (L := L) (L' := fun i => (listed.setIfInBounds j true).getD i false) (j := j) (xj := x) hLj' hsj hset tr 0 _ (Nat.zero_le _) (by simpa using hx) (fun i y hy hji hLi t hdt hxt => by
              rw [Nat.zero_add] at hji hLi
              rw [hL] at hLi
              have h1 := hlater i y hy hji hLi
              simp only [Bool.or_eq_false_iff] at h1
              have := h1.1.1.1.2
              simp [eqO, hdt, hxt] at this)]
          rw [s3, s4] at S'
          exact S'
    unfold wpOp
    simp only [hoj]
    split
    · rename_i hw; rw [if_pos hw] at hwp; exact .inl hwp
    · rename_i hw; rw [if_neg hw] at hwp; exact hwp

theorem sym_region {lay : Lay} (hl : LayOK P lay) (hm : P.follows .mixedOrders = true) {id : Nat} {ops : List Oper} {draw : Bool} (hs : List (Nat × Hint)) (ks gs : List Nat) {st : SState} (st' : SState) (obs : List Ob) {Q : Exit → Act → World → Prop} (hn : dstB X.n ops = true)
    (hev : evalR lay ops hs ks gs st = some (st', obs)) (hdr : (!draw || orderB lay ops hs st) = true) (ho : AllOb P X.w0.heap.size obs) (S : St X st E a w) (k : ∀ E' a' w', St X st' E' a' w' → Q .normal a' w') : (Code.region id ops.toArray draw).wp P Q a w := by
  cases draw with
  | false => exact sym_region_text hl hs ks gs st' obs hn hev ho S k
  | true =>
    simp only [Bool.not_true, Bool.false_or] at hdr
    unfold evalR at hev
    unfold orderB at hdr
    cases h1 : evalOps lay ops hs 0 ops st with
    | none => rw [h1] at hev; simp at hev
    | some r =>
      obtain ⟨tr, obs2, st2⟩ := r
      rw [h1] at hev hdr
      simp only [Option.some.injEq, Prod.mk.injEq] at hev
      simp only [Bool.and_eq_true] at hdr
      obtain ⟨rfl, rfl⟩ := hev
      obtain ⟨⟨d1, d2⟩, d3⟩ := hdr
      have hlen := (evalOps_spec (P := P) (B := X.w0.heap.size) ops 0 st tr obs2 st2 h1 ho).1
      refine wp_region_any hm ?_
      have S' : St X st E a { w with drawn := w.drawn + 1 } := StF.later S ⟨rfl, rfl, rfl, Nat.le_refl _, fun _ _ => rfl⟩
      refine any_sound hl h1 ho (dstB_ok hn) d1 d2 d3 (fun E' a' w' S' => k E' a' w' (S'.weak (fun t sv h => pickL_sub _ _ _ _ h) (fun g x h => pickL_sub _ _ _ _ h))) _ _ E a _ (by simp) (fun j o _ h => ?_) ?_ ?_
      · rw [getD_replicate_false] at h; cases h
      · refine Nat.le_trans List.countP_le_length (by simp)
      · rw [slotsL_none _ _ _ _ (fun k _ => getD_replicate_false _ _), blksL_none _ _ _ _ (fun k _ => getD_replicate_false _ _)]
        exact S'
end Go.Proofs.Ytlcccomdijdkaaa
namespace Go.Proofs.Ytlcccomdijdkaaa
open Go.RowKit

variable {P : Program} {X : Ctx} {E : Env} {a : Act} {w : World} {st : SState}

def argSlots : Nat → List SV → List (Nat × SV)
  | _, [] => []
  | i, x :: r => (i, x) :: argSlots (i + 1) r
theorem argSlots_look : ∀ (xs : List SV) (i t : Nat) (sv : SV), look (argSlots i xs) t = some sv → i ≤ t ∧ xs[t - i]? = some sv
  | [], i, t, sv, h => by simp [argSlots, look] at h
  | x :: r, i, t, sv, h => by
    rcases look_cases h with ⟨rfl, rfl⟩ | ⟨hne, h2⟩
    · exact ⟨Nat.le_refl _, by simp⟩
    · obtain ⟨h3, h4⟩ := argSlots_look r (i + 1) t sv h2
      refine ⟨by omega, ?_⟩
      rw [show t - i = (t - (i + 1)) + 1 by omega, List.getElem?_cons_succ]
      exact h4

/-- a slice of such elements lies there -/
def SlAt (w : World) (A : Option Addr) (len n : Nat) (get : Nat → List Value) : Prop :=
  0 < len → ∃ b off, A = some ⟨b, off, none⟩ ∧ b < w.heap.size ∧ ∀ i, i < len → ∀ j v, (get i)[j]? = some v → w.cell? ⟨b, off + (i * n + j), none⟩ = some v
theorem SlAt.later {w w' : World} {A : Option Addr} {len n : Nat} {get : Nat → List Value} (h : SlAt w A len n get) (hb : Below w.heap.size w w') : SlAt w' A len n get := fun h0 => by
  obtain ⟨b, off, h1, h2, h3⟩ := h h0
  exact ⟨b, off, h1, Nat.lt_of_lt_of_le h2 hb.size, fun i hi j v hv => (World.cell?_of_block (hb.block b h2)).trans (h3 i hi j v hv)⟩
theorem SlAt.rd {w : World} {A : Option Addr} {len n : Nat} {get : Nat → List Value} (h : SlAt w A len n get) {cap : Nat} (hc : len ≤ cap) : RdAt w ⟨len, n, get⟩ ⟨A, len, cap, n⟩ := ⟨rfl, rfl, hc, h⟩
def envOf (sls : List (Nat × RS)) (xs : List (Nat × (Nat → Value)) := []) : Env := { ρ := fun _ => 0, sl := fun s => (look sls s).getD ⟨none, 0, 0, 0⟩, gr := fun _ => undef, x := fun g => (look xs g).getD (fun _ => .bool false) }
def AllOne : List (Nat × (Nat → Value)) → Prop
  | [] => True
  | (_, v) :: r => (∀ i, (v i).oneCell' = true) ∧ AllOne r
theorem AllOne.get : ∀ {l : List (Nat × (Nat → Value))}, AllOne l → ∀ g v, look l g = some v → ∀ i, (v i).oneCell' = true
  | [], _, g, v, h => by simp [look] at h
  | (k, x) :: r, h, g, v, hv => by
    rcases look_cases hv with ⟨rfl, rfl⟩ | ⟨_, h2⟩
    · exact h.1
    · exact AllOne.get h.2 g v h2
theorem envOf_one {sls : List (Nat × RS)} {xs : List (Nat × (Nat → Value))} (h : AllOne xs) : ∀ g i, ((envOf sls xs).x g i).oneCell' = true := fun g i => by
  simp only [envOf]
  cases hx : look xs g with
  | none => rfl
  | some v => exact h.get g v hx i
def AllRd (w : World) (E : Env) : List (Nat × Q) → Prop
  | [] => True
  | (s, q) :: r => RdAt w q (E.sl s) ∧ AllRd w E r
theorem AllRd.get {w : World} {E : Env} : ∀ {l : List (Nat × Q)}, AllRd w E l → ∀ s q, look l s = some q → RdAt w q (E.sl s)
  | [], _, s, q, h => by simp [look] at h
  | (k, x) :: r, h, s, q, hq => by
    rcases look_cases hq with ⟨rfl, rfl⟩ | ⟨_, h2⟩
    · exact h.1
    · exact AllRd.get h.2 s q h2
/-- the blocks of the slices are among R -/
def InR (R : Nat → Prop) (A : Option Addr) (len : Nat) : Prop := ∀ b off, 0 < len → A = some ⟨b, off, none⟩ → R b
def AllRR (R : Nat → Prop) (E : Env) : List (Nat × Q) → Prop
  | [] => True
  | (s, q) :: r => InR R (E.sl s).A q.len ∧ AllRR R E r
theorem AllRR.get {R : Nat → Prop} {E : Env} : ∀ {l : List (Nat × Q)}, AllRR R E l → ∀ s q, look l s = some q → InR R (E.sl s).A q.len
  | [], _, s, q, h => by simp [look] at h
  | (k, x) :: r, h, s, q, hq => by
    rcases look_cases hq with ⟨rfl, rfl⟩ | ⟨_, h2⟩
    · exact h.1
    · exact AllRR.get h.2 s q h2
abbrev allR : Nat → Prop := fun _ => True
theorem AllRR.all (E : Env) : ∀ l : List (Nat × Q), AllRR allR E l
  | [] => trivial
  | (_, _) :: r => ⟨fun _ _ _ _ => trivial, AllRR.all E r⟩
def AllHeld (R : Nat → Prop) (w : World) (E : Env) : List (Nat × BE) → Prop
  | [] => True
  | (g, .held Φ) :: r => HeldIn R w (Φ (E.x g)) ∧ AllHeld R w E r
  | (_, .blk _ _) :: _ => False
theorem AllHeld.get {R : Nat → Prop} {w : World} {E : Env} : ∀ {l : List (Nat × BE)}, AllHeld R w E l → ∀ g y, look l g = some y → ∃ Φ, y = .held Φ ∧ HeldIn R w (Φ (E.x g))
  | [], _, g, y, h => by simp [look] at h
  | (k, .held Φ) :: r, h, g, y, hy => by
    rcases look_cases hy with ⟨rfl, rfl⟩ | ⟨_, h2⟩
    · exact ⟨Φ, rfl, h.1⟩
    · exact AllHeld.get h.2 g y h2
abbrev noC : Nat → Prop := fun _ => False
abbrev noρ : Nat → Nat := fun _ => 0

/-- a call begins: with the blocks that it has caught, and with letters -/
theorem sym_enter_at {f : FuncId} {fn : Func} {c : Code} {W : World} {T : Ending → World → Prop} (hf : P.funcs[f]? = some fn) (hb : fn.body = some c) (svs : List SV) (rds : List (Nat × Q)) (blks : List (Nat × BE)) (E : Env) (C R : Nat → Prop) (ρ0 : Nat → Nat) (hpin : ∀ g, 1000 ≤ g → E.ρ g = ρ0 g) (hn : Nat.ble svs.length fn.ntmps = true)
    (hone : ∀ g i, (E.x g i).oneCell' = true) (hblk : ∀ g t cs, look blks g = some (.blk t cs) → Blk W (E.ρ g) t (SV.vals E cs).toArray ∧ C (E.ρ g)) (hinj : ∀ g g' t t' cs cs', look blks g = some (.blk t cs) → look blks g' = some (.blk t' cs') → E.ρ g = E.ρ g' → g = g')
    (hh : ∀ g Φ, look blks g = some (.held Φ) → HeldIn (fun k => R k ∧ ∀ g t cs, look blks g = some (.blk t cs) → E.ρ g ≠ k) W (Φ (E.x g))) (hr : AllRd W E rds) (hrR : ∀ s q b off, look rds s = some q → 0 < q.len → (E.sl s).A = some ⟨b, off, none⟩ → R b ∧ ∀ g t cs, look blks g = some (.blk t cs) → E.ρ g ≠ b)
    (h : ∀ a, St ⟨W, C, fn.ntmps, [], R, ρ0, E.sl, E.x⟩ ⟨argSlots 0 svs, ⟨blks, rds, []⟩⟩ E a W → c.wp P (bodyPost P fn T) a W) : Calls P f (SV.vals E svs).toArray W T := by
  have hn := Nat.le_of_ble_eq_true hn
  have hap : ∀ k, (R k ∧ ∀ g t cs, look blks g = some (.blk t cs) → E.ρ g ≠ k) → Apart W.heap.size R (look blks) [] E k := fun k hk => ⟨fun ho => by
    rcases ho with ⟨g, t, cs, hx, e⟩ | ⟨j, q, hq, _⟩
    · exact hk.2 g t cs hx e
    · simp [look] at hq, .inr hk.1⟩
  refine calls_of_wp hf hb (h _ ⟨fun t sv ht => ?_, by simp [vals_length]; omega, rfl, Kept.refl _ _, ⟨fun g t cs hg => (hblk g t cs hg).1, hr.get, fun k q hq => by simp [look] at hq, hone⟩,
    ⟨fun g t cs hx => .inr (hblk g t cs hx).2, hinj, ⟨fun k k' x y b hx => by simp [look] at hx, fun k x b hx => by simp [look] at hx⟩, fun g k t cs y _ hy => by simp [look] at hy, fun s q b off hq hl hA => hap b (hrR s q b off hq hl hA), fun g Φ hΦ => (hh g Φ hΦ).mono fun k _ => hap k⟩, hpin, fun _ _ => rfl, fun _ _ => rfl⟩)
  obtain ⟨_, h2⟩ := argSlots_look svs 0 t sv ht
  rw [Nat.sub_zero] at h2
  have hlt : t < svs.length := (List.getElem?_eq_some_iff.1 h2).1
  rw [Array.getElem?_append_left (by simp [vals_length, hlt])]
  simp [vals_get, h2]
theorem sym_enter {f : FuncId} {fn : Func} {c : Code} {W : World} {T : Ending → World → Prop} (hf : P.funcs[f]? = some fn) (hb : fn.body = some c) (svs : List SV) (rds : List (Nat × Q)) (blks : List (Nat × BE)) (E : Env) (C R : Nat → Prop) (ρ0 : Nat → Nat) (hpin : ∀ g, 1000 ≤ g → E.ρ g = ρ0 g) (hn : Nat.ble svs.length fn.ntmps = true)
    (hone : ∀ g i, (E.x g i).oneCell' = true) (hblk : ∀ g t cs, look blks g = some (.blk t cs) → Blk W (E.ρ g) t (SV.vals E cs).toArray ∧ C (E.ρ g)) (hinj : ∀ g g' t t' cs cs', look blks g = some (.blk t cs) → look blks g' = some (.blk t' cs') → E.ρ g = E.ρ g' → g = g')
    (hh : ∀ g Φ, look blks g = some (.held Φ) → HeldIn (fun k => R k ∧ ∀ g t cs, look blks g = some (.blk t cs) → E.ρ g ≠ k) W (Φ (E.x g))) (hr : AllRd W E rds) (hrR : ∀ s q b off, look rds s = some q → 0 < q.len → (E.sl s).A = some ⟨b, off, none⟩ → R b ∧ ∀ g t cs, look blks g = some (.blk t cs) → E.ρ g ≠ b)
    (h : ∀ a w, St ⟨W, C, fn.ntmps, [], R, ρ0, E.sl, E.x⟩ ⟨argSlots 0 svs, ⟨blks, rds, []⟩⟩ E a w → c.wp P (bodyPost P fn T) a w) : Calls P f (SV.vals E svs).toArray W T :=
  sym_enter_at hf hb svs rds blks E C R ρ0 hpin hn hone hblk hinj hh hr hrR fun a S => h a W S
theorem sym_call {f : FuncId} {fn : Func} {c : Code} {W : World} {T : Ending → World → Prop} (hf : P.funcs[f]? = some fn) (hb : fn.body = some c) (svs : List SV) (rds : List (Nat × Q)) (blks : List (Nat × BE)) (E : Env) (R : Nat → Prop) (hpin : ∀ g, 1000 ≤ g → E.ρ g = 0) (hn : Nat.ble svs.length fn.ntmps = true)
    (hone : ∀ g i, (E.x g i).oneCell' = true) (hr : AllRd W E rds) (hrR : AllRR R E rds) (hh : AllHeld R W E blks) (h : ∀ E' a w, St ⟨W, noC, fn.ntmps, [], R, noρ, E.sl, E.x⟩ ⟨argSlots 0 svs, ⟨blks, rds, []⟩⟩ E' a w → c.wp P (bodyPost P fn T) a w) : Calls P f (SV.vals E svs).toArray W T := by
  have hno : ∀ g t cs, look blks g ≠ some (.blk t cs) := fun g t cs hx => by
    obtain ⟨Φ, e, _⟩ := hh.get g _ hx
    cases e
  refine sym_enter hf hb svs rds blks E noC R noρ hpin hn hone (fun g t cs hx => absurd hx (hno g t cs)) (fun g _ t _ cs _ hx => absurd hx (hno g t cs)) (fun g Φ hx => ?_) hr (fun s q b off hq hl hA => ⟨hrR.get s q hq b off hl hA, fun g t cs hx => absurd hx (hno g t cs)⟩) (h E)
  obtain ⟨Φ', e, h2⟩ := hh.get g _ hx
  cases e
  exact h2.mono fun k _ hk => ⟨hk, fun g t cs hx => absurd hx (hno g t cs)⟩

/-! out of a call -/
def resSV (lay : Lay) (st : SState) : List ResultVar → Option (List SV)
  | [] => some []
  | .tmp t :: r => match look st.slots t, resSV lay st r with
    | some x, some xs => some (x :: xs)
    | _, _ => none
  | .cell a t :: r => match look lay t, look st.slots a, resSV lay st r with
    | some d, some (.own g off), some xs => match look st.m.blks g with
      | some (.blk _ cs) => match Nat.ble (off + d.n) cs.length && (isAggT d.k || Nat.beq d.n 1) with
        | true => match partSV cs off d.n (isAggT d.k) with
          | some v => some (v :: xs)
          | none => none
        | false => none
      | _ => none
    | _, _, _ => none
def retSV : List SV → SV
  | [x] => x
  | xs => .tup xs
def oneRes (a : Act) : ResultVar → Sem Value
  | .tmp t => pure (a.tmps.getD t undef)
  | .cell x t => do loadVar t (← asAddr (a.tmps.getD x undef))
theorem res_one {lay : Lay} (hl : LayOK P lay) (S : St X st E a w) : ∀ (rs : List ResultVar) (xs : List SV), resSV lay st rs = some xs →
    (rs.mapM (oneRes a)).run P w = .ok (SV.vals E xs) w
  | [], xs, h => by simp [resSV] at h; subst h; simp [SV.vals, List.mapM_nil, Sem.run_pure]
  | .tmp t :: r, xs, h => by
    simp only [resSV] at h
    cases h1 : look st.slots t with
    | none => rw [h1] at h; simp at h
    | some x =>
      cases h2 : resSV lay st r with
      | none => rw [h1, h2] at h; simp at h
      | some ys =>
        rw [h1, h2] at h
        simp only [Option.some.injEq] at h
        subst h
        have hs := S.slot t x h1
        rw [List.mapM_cons]
        simp only [oneRes, Sem.run_bind, Sem.run_pure, Result.andThen_ok, res_one hl S r ys h2, SV.vals]
        simp [hs]
  | .cell x t :: r, xs, h => by
    simp only [resSV] at h
    split at h
    · rename_i d g off ys hd hx hr
      split at h
      · rename_i ty cs hg
        split at h
        · rename_i hb
          split at h
          · rename_i v hv
            simp only [Option.some.injEq] at h
            subst h
            simp only [Bool.and_eq_true, Nat.ble_eq, Bool.or_eq_true, Nat.beq_eq] at hb
            have hs := S.slot x _ hx
            have hB := S.mem.blk g _ _ hg
            have hld := run_load_cells (P := P) (E := E) (w := w) (b := E.ρ g) (ao := off) hl hd (fun j y hy => by
              rw [hB.cell]
              have : cs[off + j]? = some y := by
                rw [List.getElem?_take] at hy
                split at hy
                · rwa [List.getElem?_drop] at hy
                · cases hy
              simp [vals_get, this]) hb.1 hb.2 hv
            unfold Instr.loadAt at hld
            simp only [Instr.sureAddr, Sem.run_bind, Sem.run_pure, Result.andThen_ok] at hld
            have hgd : a.tmps.getD x undef = .pointer (some ⟨E.ρ g, off, none⟩) := by simp [hs, SV.val]
            rw [List.mapM_cons]
            simp only [oneRes, Sem.run_bind, hgd, asAddr, Sem.run_pure, Result.andThen_ok, hld, res_one hl S r ys hr, SV.vals]
          · cases h
        · cases h
      · cases h
    · cases h
theorem sym_ret {lay : Lay} (hl : LayOK P lay) {fn : Func} {R : Ending → World → Prop} (xs : List SV) (hr : resSV lay st fn.results.toList = some xs) (hD : X.D = []) (S : St X st E a w) (h : R (.returned ((retSV xs).val E)) w) : bodyPost P fn R .ret a w := by
  refine ⟨S.defers.trans hD, (retSV xs).val E, ?_, h⟩
  have h1 := res_one (P := P) hl S _ _ hr
  have h2 : (fn.results.mapM (oneRes a)).run P w = .ok (SV.vals E xs).toArray w := by
    rw [Array.mapM_eq_mapM_toList]
    show ((fn.results.toList.mapM (oneRes a)).bind fun l => Sem.pure l.toArray).run P w = _
    have := Sem.run_bind (P := P) (w := w) (fn.results.toList.mapM (oneRes a)) (fun l => (Sem.pure l.toArray : Sem (Array Value)))
    refine this.trans ?_
    rw [h1]
    rfl
  have h3 : (results fn a.tmps) = (fn.results.mapM (oneRes a) >>= fun vs => (pure (if h : vs.size = 1 then vs[0] else .tuple vs) : Sem Value)) := by
    unfold results
    congr 1
  rw [h3, Sem.run_bind, h2]
  match xs with
  | [] => simp [SV.vals, retSV, SV.val, Sem.run_pure]
  | [x] => simp [SV.vals, retSV, Sem.run_pure]
  | x :: y :: r => simp [SV.vals, retSV, SV.val, Sem.run_pure]
theorem St.below (S : St X st E a w) (hC : X.C = noC) : Below X.w0.heap.size X.w0 w := S.kept.below (Nat.le_refl _) (fun k _ h => by rw [hC] at h; exact h)

/-! code -/
theorem sym_seq {lay : Lay} (hl : LayOK P lay) (hm : P.follows .mixedOrders = true) {id : Nat} {ops : List Oper} {draw : Bool} {rest : Code} (hs : List (Nat × Hint)) (ks gs : List Nat) (st' : SState) (obs : List Ob) {Q : Exit → Act → World → Prop} (S : St X st E a w) (hn : dstB X.n ops = true)
    (hev : evalR lay ops hs ks gs st = some (st', obs)) (hdr : (!draw || orderB lay ops hs st) = true) (ho : AllOb P X.w0.heap.size obs) (k : ∀ E' a' w', St X st' E' a' w' → rest.wp P Q a' w') : (Code.seq (Code.region id ops.toArray draw) rest).wp P Q a w :=
  wp_seq (sym_region hl hm hs ks gs st' obs hn hev hdr ho S k)
/-- a test, whose ways don't meet again -/
theorem sym_if {c : Operand} {x y rest : Code} {b : Bool} {Q : Exit → Act → World → Prop} (S : St X st E a w) (hc : opnd st.slots c = some (.v (.bool b))) (ht : b = true → x.wp P (Exit.then (rest.wp P Q) Q) a w) (hf : b = false → y.wp P (Exit.then (rest.wp P Q) Q) a w) : (Code.seq (Code.cond c x y) rest).wp P Q a w := by
  refine wp_seq (wp_cond_split ?_ ht hf)
  cases c with
  | tmp t => simp only [opnd] at hc; have := S.slot t _ hc; simp [Act.eval, this, SV.val]
  | const v => simp [opnd] at hc; subst hc; rfl
  | global g => simp [opnd] at hc
  | func f => simp [opnd] at hc
/-- a test, whose ways meet again -/
theorem sym_meet {c : Operand} {x y rest : Code} {b : Bool} (st2 : SState) {Q : Exit → Act → World → Prop} (S : St X st E a w) (hc : opnd st.slots c = some (.v (.bool b))) (ht : b = true → x.wp P (Exit.then (fun a' w' => ∃ E', St X st2 E' a' w') Q) a w) (hf : b = false → y.wp P (Exit.then (fun a' w' => ∃ E', St X st2 E' a' w') Q) a w)
    (k : ∀ E' a' w', St X st2 E' a' w' → rest.wp P Q a' w') : (Code.seq (Code.cond c x y) rest).wp P Q a w := by
  have h := sym_if (P := P) (x := x) (y := y) (rest := .skip) (Q := Exit.then (fun a' w' => ∃ E', St X st2 E' a' w') Q) S hc (fun hb => wp_mono (ht hb) (fun e a w h => by cases e <;> first | exact wp_skip h | exact h)) (fun hb => wp_mono (hf hb) (fun e a w h => by cases e <;> first | exact wp_skip h | exact h))
  have h2 : (Code.cond c x y).wp P (Exit.then (fun a' w' => ∃ E', St X st2 E' a' w') Q) a w := by
    refine wp_cond_split ?_ ht hf
    cases c with
    | tmp t => simp only [opnd] at hc; have := S.slot t _ hc; simp [Act.eval, this, SV.val]
    | const v => simp [opnd] at hc; subst hc; rfl
    | global g => simp [opnd] at hc
    | func f => simp [opnd] at hc
  refine wp_seq (wp_mono h2 fun e a w h => ?_)
  cases e with
  | normal => obtain ⟨E', S'⟩ := h; exact k E' a w S'
  | _ => exact h

/-! another spelling of a state -/
def castS (ch : List (Nat × SV)) (σ : List (Nat × SV)) : Option (List Ob) := match ch with
  | [] => some []
  | (t, x) :: r => match look σ t, castS r σ with
    | some y, some obs => some (.eq y x :: obs)
    | _, _ => none
def eqsOb : List SV → List SV → Option (List Ob)
  | [], [] => some []
  | x :: xs, y :: ys => match eqsOb xs ys with
    | some obs => some (.eq x y :: obs)
    | none => none
  | _, _ => none
def castB (ch : List (Nat × BE)) (l : List (Nat × BE)) : Option (List Ob) := match ch with
  | [] => some []
  | (g, .blk t cs) :: r => match look l g, castB r l with
    | some (.blk t' cs'), some obs => match Nat.beq t t', eqsOb cs' cs with
      | true, some o2 => some (o2 ++ obs)
      | _, _ => none
    | _, _ => none
  | (_, .held _) :: _ => none
def castR (chs : List (Nat × SV)) (chb : List (Nat × BE)) (ks gs rs : List Nat) (st : SState) : Option (SState × List Ob) := match castS chs st.slots, castB chb st.m.blks with
  | some o1, some o2 => some (⟨pickL ks (chs ++ st.slots), { st.m with blks := pickL gs (chb ++ st.m.blks), rds := pickL rs st.m.rds }⟩, o1 ++ o2)
  | _, _ => none
theorem look_append {β : Type} : ∀ (l r : List (Nat × β)) (k : Nat) (x : β), look (l ++ r) k = some x → look l k = some x ∨ look r k = some x
  | [], r, k, x, h => .inr h
  | (k', y) :: l, r, k, x, h => by
    rcases look_cases h with ⟨rfl, rfl⟩ | ⟨hne, h2⟩
    · exact .inl (look_same _ _ _)
    · rw [look_ne hne]; exact look_append l r k x h2
theorem castS_ok {B : Nat} {σ : List (Nat × SV)} : ∀ {ch : List (Nat × SV)} {obs : List Ob}, castS ch σ = some obs → AllOb P B obs → ∀ t x, look ch t = some x → ∃ y, look σ t = some y ∧ ∀ E, y.val E = x.val E
  | [], _, _, _, t, x, h => by simp [look] at h
  | (t', x') :: r, obs, h, ho, t, x, hx => by
    simp only [castS] at h
    split at h
    · rename_i y o2 h1 h2
      simp only [Option.some.injEq] at h
      subst h
      rcases look_cases hx with ⟨rfl, rfl⟩ | ⟨_, h3⟩
      · exact ⟨y, h1, ho.1⟩
      · exact castS_ok h2 ho.2 t x h3
    · cases h
theorem eqsOb_ok {B : Nat} : ∀ {xs ys : List SV} {obs : List Ob}, eqsOb xs ys = some obs → AllOb P B obs → ∀ E, SV.vals E xs = SV.vals E ys
  | [], [], _, _, _, E => rfl
  | x :: xs, y :: ys, obs, h, ho, E => by
    simp only [eqsOb] at h
    split at h
    · rename_i o2 h1
      simp only [Option.some.injEq] at h
      subst h
      simp only [SV.vals, ho.1 E, eqsOb_ok h1 ho.2 E]
    · cases h
  | [], _ :: _, _, h, _, _ => by simp [eqsOb] at h
  | _ :: _, [], _, h, _, _ => by simp [eqsOb] at h
theorem castB_ok {B : Nat} {l : List (Nat × BE)} : ∀ {ch : List (Nat × BE)} {obs : List Ob}, castB ch l = some obs → AllOb P B obs → ∀ g y, look ch g = some y → ∃ t cs cs', y = .blk t cs ∧ look l g = some (.blk t cs') ∧ ∀ E, SV.vals E cs' = SV.vals E cs
  | [], _, _, _, g, y, h => by simp [look] at h
  | (g', .held _) :: r, obs, h, ho, g, y, hx => by simp [castB] at h
  | (g', .blk t' c') :: r, obs, h, ho, g, y, hx => by
    simp only [castB] at h
    split at h
    · rename_i t2 c2 o2 h1 h2
      split at h
      · rename_i o3 h3 h4
        simp only [Option.some.injEq] at h
        subst h
        obtain ⟨p1, p2⟩ := AllOb.append ho
        rcases look_cases hx with ⟨rfl, rfl⟩ | ⟨_, h5⟩
        · have := Nat.eq_of_beq_eq_true h3
          subst this
          exact ⟨_, _, c2, rfl, h1, eqsOb_ok h4 p1⟩
        · exact castB_ok h2 p2 g y h5
      · cases h
    · cases h
theorem St.cast (chs : List (Nat × SV)) (chb : List (Nat × BE)) (ks gs rs : List Nat) (st2 : SState) (obs : List Ob) (h : castR chs chb ks gs rs st = some (st2, obs)) (ho : AllOb P X.w0.heap.size obs) (S : St X st E a w) : St X st2 E a w := by
  unfold castR at h
  split at h
  · rename_i o1 o2 h1 h2
    simp only [Option.some.injEq, Prod.mk.injEq] at h
    obtain ⟨rfl, rfl⟩ := h
    obtain ⟨p1, p2⟩ := AllOb.append ho
    have hb : ∀ g t cs, look (pickL gs (chb ++ st.m.blks)) g = some (.blk t cs) → ∃ cs', look st.m.blks g = some (.blk t cs') ∧ SV.vals E cs' = SV.vals E cs := fun g t cs hy => by
      rcases look_append _ _ _ _ (pickL_sub _ _ _ _ hy) with h3 | h3
      · obtain ⟨t1, c1, cs', e, k1, k2⟩ := castB_ok h2 p2 g _ h3
        simp only [BE.blk.injEq] at e
        obtain ⟨rfl, rfl⟩ := e
        exact ⟨cs', k1, k2 E⟩
      · exact ⟨cs, h3, rfl⟩
    have hd : ∀ g Φ, look (pickL gs (chb ++ st.m.blks)) g = some (.held Φ) → look st.m.blks g = some (.held Φ) := fun g Φ hy => by
      rcases look_append _ _ _ _ (pickL_sub _ _ _ _ hy) with h3 | h3
      · obtain ⟨t1, c1, cs', e, _⟩ := castB_ok h2 p2 g _ h3
        cases e
      · exact h3
    have ho : ∀ k, OwnB (look (pickL gs (chb ++ st.m.blks))) st.m.grs E k → OwnB (look st.m.blks) st.m.grs E k := by
      rintro k (⟨g, t, cs, hx, e⟩ | hk)
      · obtain ⟨c', k1, _⟩ := hb g t cs hx; exact .inl ⟨g, t, c', k1, e⟩
      · exact .inr hk
    have hap : ∀ k, Apart X.w0.heap.size X.R (look st.m.blks) st.m.grs E k → Apart X.w0.heap.size X.R (look (pickL gs (chb ++ st.m.blks))) st.m.grs E k := fun k hk => ⟨fun h => hk.1 (ho k h), hk.2⟩
    refine ⟨fun t sv ht => ?_, S.size, S.defers, S.kept, ⟨fun g t cs hg => ?_, fun s q hq => S.mem.rd s q (pickL_sub _ _ _ _ hq), S.mem.gr, S.mem.one⟩,
      ⟨fun g t cs hg => ?_, fun g g' t t' cs cs' hx hy => ?_, S.sep.ginj, fun g k t cs y hx hy => ?_, fun s q b off hq hl hA => hap b (S.sep.rd s q b off (pickL_sub _ _ _ _ hq) hl hA), fun g Φ hΦ => (S.sep.held g Φ (hd g Φ hΦ)).mono fun k _ => hap k⟩, S.pin⟩
    · rcases look_append _ _ _ _ (pickL_sub _ _ _ _ ht) with h3 | h3
      · obtain ⟨y, k1, k2⟩ := castS_ok h1 p1 t sv h3
        rw [← k2 E]
        exact S.slot t y k1
      · exact S.slot t sv h3
    · obtain ⟨c', k1, k2⟩ := hb g t cs hg
      rw [← k2]
      exact S.mem.blk g _ _ k1
    · obtain ⟨c', k1, _⟩ := hb g t cs hg; exact S.sep.base g _ _ k1
    · obtain ⟨c1, k1, _⟩ := hb g _ _ hx; obtain ⟨c2, k2, _⟩ := hb g' _ _ hy; exact S.sep.inj g g' _ _ _ _ k1 k2
    · obtain ⟨c1, k1, _⟩ := hb g _ _ hx; exact S.sep.mix g k _ _ y k1 hy
  · cases h
/-- what a call may use of the memory at hand -/
theorem Mem.sl {B : Nat} {R : Nat → Prop} {m : MState} {s : Nat} {q : Q} (h : Mem B R m E w) (hq : look m.rds s = some q) : ∃ A cap, E.sl s = ⟨A, q.len, cap, q.n⟩ ∧ q.len ≤ cap ∧ SlAt w A q.len q.n q.get ∧ InR R A q.len := by
  obtain ⟨h1, h2, hc, h3⟩ := h.rd s q hq
  refine ⟨(E.sl s).A, (E.sl s).cap, ?_, hc, h3, fun b off hl hA => h.rdR s q b off hq hl hA⟩
  rw [← h1, ← h2]
end Go.Proofs.Ytlcccomdijdkaaa
namespace Go.Proofs.Ytlcccomdijdkaaa
open Go.RowKit

def grd {α : Type} (p : Prop) [Decidable p] (x : Option α) : Option α := if p then x else none
theorem grd_some {α : Type} {p : Prop} [Decidable p] {x : Option α} {r : α} (h : grd p x = some r) : p ∧ x = some r := by
  unfold grd at h
  split at h
  · exact ⟨‹_›, h⟩
  · cases h
theorem grd_pos {α : Type} {p : Prop} [Decidable p] (hp : p) (x : Option α) : grd p x = x := if_pos hp
theorem bind_some {α β : Type} {x : Option α} {f : α → Option β} {r : β} (h : x.bind f = some r) : ∃ a, x = some a ∧ f a = some r := by
  cases x with
  | none => cases h
  | some a => exact ⟨a, rfl, h⟩
theorem bif_t {α : Type} {b : Bool} {x y z : α} (h : b = true) (e : cond b x y = z) : x = z := by subst h; exact e
theorem bif_f {α : Type} {b : Bool} {x y z : α} (h : b = false) (e : cond b x y = z) : y = z := by subst h; exact e
inductive Lp (α β : Type) where
  | done (x : α)
  | ret (v : β)
def Lp.go {α β : Type} (r : Lp α β) (k : α → Option β) : Option β := match r with
  | .done x => k x
  | .ret v => some v
abbrev InI64 (e : Int) : Prop := -9223372036854775808 ≤ e ∧ e ≤ 9223372036854775807
abbrev InU32 (e : Int) : Prop := 0 ≤ e ∧ e ≤ 4294967295
abbrev InU16 (e : Int) : Prop := 0 ≤ e ∧ e ≤ 65535
abbrev InU8 (e : Int) : Prop := 0 ≤ e ∧ e ≤ 255
theorem rngI64 {e : Int} (h : InI64 e) : IntKind.i64.wrap e = e := by
  exact IntWalk.i64_in _ h
theorem rngU32 {e : Int} (h : InU32 e) : IntKind.u32.wrap e = e := by
  obtain ⟨h1, h2⟩ := h
  simp [IntKind.wrap, IntKind.bits, IntKind.signed]
  omega
theorem rngU16 {e : Int} (h : InU16 e) : IntKind.u16.wrap e = e := by
  obtain ⟨h1, h2⟩ := h
  simp [IntKind.wrap, IntKind.bits, IntKind.signed]
  omega
theorem rngU8 {e : Int} (h : InU8 e) : IntKind.u8.wrap e = e := by
  obtain ⟨h1, h2⟩ := h
  simp [IntKind.wrap, IntKind.bits, IntKind.signed]
  omega

section
variable {P : Program} {X : Ctx} {E : Env} {a : Act} {w : World} {st : SState} {Q : Exit → Act → World → Prop} {K : Act → World → Prop}
theorem out_then_normal (h : K a w) : Exit.then K Q .normal a w := h
theorem out_then_exit {i : Nat} (h : Q (.exit i) a w) : Exit.then K Q (.exit i) a w := h
theorem out_then_ret (h : Q .ret a w) : Exit.then K Q .ret a w := h
theorem out_block_normal {i : Nat} (h : Q .normal a w) : Exit.inBlock i Q .normal a w := h
theorem out_block_here {i : Nat} (h : Q .normal a w) : Exit.inBlock i Q (.exit i) a w := by simp [Exit.inBlock, h]
theorem out_block_exit {i j : Nat} (hne : j ≠ i) (h : Q (.exit j) a w) : Exit.inBlock i Q (.exit j) a w := by simp [Exit.inBlock, hne, h]
theorem out_block_ret {i : Nat} (h : Q .ret a w) : Exit.inBlock i Q .ret a w := h
theorem sym_last {lay : Lay} (hl : LayOK P lay) (hm : P.follows .mixedOrders = true) {id : Nat} {ops : List Oper} {draw : Bool} (hs : List (Nat × Hint)) (ks gs : List Nat) (st' : SState) (obs : List Ob) (S : St X st E a w) (hn : dstB X.n ops = true)
    (hev : evalR lay ops hs ks gs st = some (st', obs)) (hdr : (!draw || orderB lay ops hs st) = true) (ho : AllOb P X.w0.heap.size obs) (k : ∀ E' a' w', St X st' E' a' w' → Q .normal a' w') : (Code.region id ops.toArray draw).wp P Q a w :=
  sym_region hl hm hs ks gs st' obs hn hev hdr ho S k
theorem sym_if_last {c : Operand} {x y : Code} {b : Bool} (S : St X st E a w) (hc : opnd st.slots c = some (.v (.bool b))) (ht : b = true → x.wp P Q a w) (hf : b = false → y.wp P Q a w) : (Code.cond c x y).wp P Q a w := by
  refine wp_cond_split ?_ ht hf
  cases c with
  | tmp t => simp only [opnd] at hc; have := S.slot t _ hc; simp [Act.eval, this, SV.val]
  | const v => simp [opnd] at hc; subst hc; rfl
  | global g => simp [opnd] at hc
  | func f => simp [opnd] at hc
theorem sym_meet_last {c : Operand} {x y : Code} {b : Bool} (st2 : SState) (S : St X st E a w) (hc : opnd st.slots c = some (.v (.bool b))) (ht : b = true → x.wp P (Exit.then (fun a' w' => ∃ E', St X st2 E' a' w') Q) a w) (hf : b = false → y.wp P (Exit.then (fun a' w' => ∃ E', St X st2 E' a' w') Q) a w)
    (k : ∀ E' a' w', St X st2 E' a' w' → Q .normal a' w') : (Code.cond c x y).wp P Q a w := by
  have hm : ∀ z : Code, z.wp P (Exit.then (fun a' w' => ∃ E', St X st2 E' a' w') Q) a w → z.wp P Q a w := fun z h => wp_mono h fun e a w h => by
    cases e with
    | normal => obtain ⟨E', S'⟩ := h; exact k E' a w S'
    | _ => exact h
  exact sym_if_last S hc (fun hb => hm _ (ht hb)) (fun hb => hm _ (hf hb))
theorem sym_block_meet {id : Nat} {c rest : Code} {G : Act → World → Prop} (h1 : c.wp P (Exit.inBlock id (Exit.then G Q)) a w) (h2 : ∀ a w, G a w → rest.wp P Q a w) : (Code.seq (Code.block id c) rest).wp P Q a w := by
  refine wp_seq (wp_block (wp_mono h1 fun e a w h => ?_))
  cases e with
  | normal => exact h2 _ _ h
  | exit j =>
    by_cases hj : j = id
    · subst hj; simp only [Exit.inBlock, if_true] at h ⊢; exact h2 _ _ h
    · simp only [Exit.inBlock, if_neg hj] at h ⊢; exact h
  | _ => exact h
theorem sym_block_last {id : Nat} {c : Code} {G : Act → World → Prop} (h1 : c.wp P (Exit.inBlock id (Exit.then G Q)) a w) (h2 : ∀ a w, G a w → Q .normal a w) : (Code.block id c).wp P Q a w := by
  refine wp_block (wp_mono h1 fun e a w h => ?_)
  cases e with
  | normal => exact h2 _ _ h
  | exit j =>
    by_cases hj : j = id
    · subst hj; simp only [Exit.inBlock, if_true] at h ⊢; exact h2 _ _ h
    · simp only [Exit.inBlock, if_neg hj] at h ⊢; exact h
  | _ => exact h
theorem sym_rounds {β : Type} {c : Code} {F : Nat → β → Prop} {H : β → SState} (b : β) (hz : ∀ b, ¬ F 0 b) (hs : ∀ n b E a w, F (n + 1) b → (∀ b' E' a' w', F n b' → St X (H b') E' a' w' → Code.rounds P c Q n a' w') → St X (H b) E a w → c.wp P (Exit.then (Code.rounds P c Q n) Q) a w)
    (n : Nat) (E : Env) (a : Act) (w : World) (h0 : F n b) (S : St X (H b) E a w) : Code.rounds P c Q n a w := by
  induction n generalizing b E a w with
  | zero => exact absurd h0 (hz b)
  | succ n ih => rw [rounds_succ]; exact hs n b E a w h0 (fun b' E' a' w' hF S' => ih b' E' a' w' hF S') S
end
end Go.Proofs.Ytlcccomdijdkaaa
namespace Go.Proofs.Ytlcccomdijdkaaa
open Go.RowKit

variable {P : Program} {X : Ctx} {sf : Nat → Option SV} {bf : BF} {rds : List (Nat × Q)} {grs : List (Nat × GQ)} {E : Env} {a : Act} {w : World} {st : SState}

mutual
/-- the growing slice k, as it was -/
def SV.subG (k : Nat) (v : Value) : SV → SV
  | .gr k' => bif Nat.beq k' k then .v v else .gr k'
  | .agg xs => .agg (SV.subGs k v xs)
  | .tup xs => .tup (SV.subGs k v xs)
  | .fn f cap => .fn f (SV.subGs k v cap)
  | .gd d want W x => .gd d want W (SV.subG k v x)
  | .v x => .v x
  | .own g off => .own g off
  | .sl s => .sl s
  | .at s i off => .at s i off
  | .ltr g i => .ltr g i
  | .row g off len cap => .row g off len cap
  | .sub s a b => .sub s a b
def SV.subGs (k : Nat) (v : Value) : List SV → List SV
  | [] => []
  | x :: xs => x.subG k v :: SV.subGs k v xs
end
def Env.updG (E : Env) (k : Nat) (v : Value) : Env := { E with gr := fun j => if j = k then v else E.gr j }
theorem Env.updG_same (E : Env) (k : Nat) (v : Value) : (E.updG k v).gr k = v := by simp [Env.updG]
theorem Env.updG_ne (E : Env) {k j : Nat} (v : Value) (h : j ≠ k) : (E.updG k v).gr j = E.gr j := by simp [Env.updG, h]
mutual
theorem SV.val_subG (E : Env) (k : Nat) (v : Value) : ∀ x : SV, (x.subG k (E.gr k)).val (E.updG k v) = x.val E
  | .gr k' => by
    cases h : Nat.beq k' k with
    | true => have := Nat.eq_of_beq_eq_true h; subst this; simp [SV.subG, SV.val]
    | false =>
      have : k' ≠ k := fun e => by subst e; simp at h
      simp [SV.subG, h, SV.val, Env.updG_ne E v this]
  | .agg xs => by simp only [SV.subG, SV.val, SV.vals_subG E k v xs]
  | .tup xs => by simp only [SV.subG, SV.val, SV.vals_subG E k v xs]
  | .fn f cap => by simp only [SV.subG, SV.val, SV.vals_subG E k v cap]
  | .gd d want W x => by simp only [SV.subG, SV.val, SV.val_subG E k v x]
  | .v x => by simp [SV.subG, SV.val]
  | .own g off => by simp [SV.subG, SV.val, Env.updG]
  | .sl s => by simp [SV.subG, SV.val, Env.updG]
  | .at s i off => by simp [SV.subG, SV.val, Env.updG]
  | .ltr g i => by simp [SV.subG, SV.val, Env.updG]
  | .row g off len cap => by simp [SV.subG, SV.val, Env.updG]
  | .sub s a b => by simp [SV.subG, SV.val, Env.updG]
theorem SV.vals_subG (E : Env) (k : Nat) (v : Value) : ∀ xs : List SV, SV.vals (E.updG k v) (SV.subGs k (E.gr k) xs) = SV.vals E xs
  | [] => by simp [SV.subGs, SV.vals]
  | x :: xs => by simp only [SV.subGs, SV.vals, SV.val_subG E k v x, SV.vals_subG E k v xs]
end
def subSlots (k : Nat) (v : Value) : List (Nat × SV) → List (Nat × SV)
  | [] => []
  | (t, x) :: r => (t, x.subG k v) :: subSlots k v r
def BE.subG (k : Nat) (v : Value) : BE → BE
  | .blk t cs => .blk t (SV.subGs k v cs)
  | .held Φ => .held Φ
def subBlks (k : Nat) (v : Value) : List (Nat × BE) → List (Nat × BE)
  | [] => []
  | (g, y) :: r => (g, y.subG k v) :: subBlks k v r
theorem BE.subG_blk {k : Nat} {v : Value} {o : Option BE} {t : TypeId} {cs : List SV} (h : o.map (BE.subG k v) = some (.blk t cs)) : ∃ c', o = some (.blk t c') ∧ cs = SV.subGs k v c' := by
  cases o with
  | none => simp at h
  | some y =>
    cases y with
    | blk t' c' => simp only [Option.map_some, BE.subG, Option.some.injEq, BE.blk.injEq] at h; obtain ⟨rfl, rfl⟩ := h; exact ⟨c', rfl, rfl⟩
    | held Φ => simp [BE.subG] at h
theorem BE.subG_held {k : Nat} {v : Value} {o : Option BE} {Φ : (Nat → Value) → World → Prop} (h : o.map (BE.subG k v) = some (.held Φ)) : o = some (.held Φ) := by
  cases o with
  | none => simp at h
  | some y =>
    cases y with
    | blk t' c' => simp [BE.subG] at h
    | held Φ' => simp only [Option.map_some, BE.subG, Option.some.injEq, BE.held.injEq] at h; subst h; rfl
theorem look_subSlots (k : Nat) (v : Value) : ∀ (l : List (Nat × SV)) (t : Nat), look (subSlots k v l) t = (look l t).map (SV.subG k v)
  | [], t => rfl
  | (j, x) :: r, t => by
    by_cases h : j = t
    · subst h; simp [subSlots, look_same]
    · simp only [subSlots]; rw [look_ne h, look_ne h]; exact look_subSlots k v r t
theorem look_subBlks (k : Nat) (v : Value) : ∀ (l : List (Nat × BE)) (t : Nat), look (subBlks k v l) t = (look l t).map (BE.subG k v)
  | [], t => rfl
  | (j, x) :: r, t => by
    by_cases h : j = t
    · subst h; simp [subBlks, look_same]
    · simp only [subBlks]; rw [look_ne h, look_ne h]; exact look_subBlks k v r t

/-- the slice k is another one now: a new one, or the one of before with more behind it -/
theorem StF.setgr (h : StF X sf bf rds grs E a w) (k : Nat) (q' : GQ) {w' : World} {v' : Value} {row : Option Nat} (hg : w.grownBy w' row) (hrow : ∀ b, row = some b → ∃ q, look grs k = some q ∧ (E.gr k).ownBlock = some b)
    (hown : GrAt w' 0 q' v') (hat : ∀ b, v'.ownBlock = some b → row = some b ∨ w.heap.size ≤ b) :
    StF X (fun t => (sf t).map (SV.subG k (E.gr k))) (fun g => (bf g).map (BE.subG k (E.gr k))) rds ((k, q') :: grs) (E.updG k v') a w' := by
  obtain ⟨bf', hbf'⟩ : ∃ bf' : BF, bf' = fun g => (bf g).map (BE.subG k (E.gr k)) := ⟨_, rfl⟩
  rw [← hbf']
  have hB : ∀ {g t cs}, bf' g = some (.blk t cs) → ∃ c', bf g = some (.blk t c') ∧ cs = SV.subGs k (E.gr k) c' := fun {g t cs} hx => by rw [hbf'] at hx; exact BE.subG_blk hx
  have hH : ∀ {g Φ}, bf' g = some (.held Φ) → bf g = some (.held Φ) := fun {g Φ} hx => by rw [hbf'] at hx; exact BE.subG_held hx
  -- what is own now: what was own, or new
  have hnew : ∀ b, OwnB bf' ((k, q') :: grs) (E.updG k v') b → OwnB bf grs E b ∨ w.heap.size ≤ b := by
    rintro b (⟨g, t, cs, hx, rfl⟩ | ⟨j, q, hq, hb⟩)
    · obtain ⟨c', hx', _⟩ := hB hx
      exact .inl (.inl ⟨g, t, c', hx', rfl⟩)
    · rcases look_cases hq with ⟨rfl, rfl⟩ | ⟨hne, h2⟩
      · rw [Env.updG_same] at hb
        rcases hat b hb with h3 | h3
        · obtain ⟨q0, k1, k2⟩ := hrow b h3
          exact .inl (.inr ⟨k, q0, k1, k2⟩)
        · exact .inr h3
      · rw [Env.updG_ne E v' (fun e => hne e.symm)] at hb
        exact .inl (.inr ⟨j, q, h2, hb⟩)
  have hrowB : ∀ b, row = some b → (X.w0.heap.size ≤ b ∨ X.C b) ∧ OwnB bf grs E b := fun b hb => by
    obtain ⟨q0, k1, k2⟩ := hrow b hb
    exact ⟨h.sep.ginj.2 k q0 b k1 k2, .inr ⟨k, q0, k1, k2⟩⟩
  have hkeep : ∀ b, b < w.heap.size → (∀ c, row = some c → c ≠ b) → w'.heap[b]? = w.heap[b]? := fun b hb hn => hg.block b hb (fun e => hn b e.symm rfl)
  have hapr : ∀ b, Apart X.w0.heap.size X.R bf grs E b → ∀ c, row = some c → c ≠ b := fun b hb c hc e => by subst e; exact hb.1 (hrowB c hc).2
  have hap : ∀ b, b < w.heap.size → Apart X.w0.heap.size X.R bf grs E b → Apart X.w0.heap.size X.R bf' ((k, q') :: grs) (E.updG k v') b := fun b hb h1 => ⟨fun ho => by
    rcases hnew b ho with h2 | h2
    · exact h1.1 h2
    · omega, h1.2⟩
  have oldlt : ∀ j q b, look grs j = some q → (E.gr j).ownBlock = some b → b < w.heap.size := fun j q b hj hb => (World.ownsRow.lt (h.mem.gr j q hj) b hb).2
  refine ⟨fun t sv ht => ?_, h.size, h.defers, ⟨hg.os.trans h.kept.os, hg.tape.trans h.kept.tape, hg.output.trans h.kept.output, Nat.le_trans h.kept.size hg.size, fun b hb hC => ?_⟩,
    ⟨fun g t cs hx => ?_, fun s q hq => (h.mem.rd s q hq).move hg.size fun b off hl hA hb => hkeep b hb (hapr b (h.sep.rd s q b off hq hl hA)), fun j q hq => ?_, h.mem.one⟩,
    ⟨fun g t cs hx => ?_, fun g g' t t' c c' hx hy e => ?_, ⟨fun j j' x y b hj hj' hb hb' => ?_, fun j x b hj hb => ?_⟩, fun g j t cs y hx hj => ?_, fun s q b off hq hl hA => hap b (h.rdlt hq hl hA) (h.sep.rd s q b off hq hl hA), fun g Φ hΦ => ?_⟩, h.pin⟩
  · cases hsf : sf t with
    | none => simp [hsf] at ht
    | some x =>
      simp only [hsf, Option.map_some, Option.some.injEq] at ht
      subst ht
      rw [SV.val_subG]
      exact h.slot t x hsf
  · have hb' : b < w.heap.size := Nat.lt_of_lt_of_le hb h.kept.size
    refine (hkeep b hb' (fun c hc e => ?_)).trans (h.kept.block b hb hC)
    subst e
    rcases (hrowB c hc).1 with h1 | h1
    · omega
    · exact hC h1
  · obtain ⟨c', hx', rfl⟩ := hB hx
    have hBl := h.mem.blk g t c' hx'
    show Blk w' (E.ρ g) t _
    rw [SV.vals_subG]
    refine (hkeep _ hBl.lt (fun c hc e => ?_)).trans hBl
    subst e
    obtain ⟨q0, k1, k2⟩ := hrow _ hc
    exact h.sep.mix g k _ _ q0 hx' k1 k2
  · rcases look_cases hq with ⟨rfl, rfl⟩ | ⟨hne, h2⟩
    · rw [Env.updG_same]; exact hown
    · rw [Env.updG_ne E v' (fun e => hne e.symm)]
      refine (h.mem.gr j q h2).move fun b hb => hkeep b (oldlt j q b h2 hb) (fun c hc e' => ?_)
      subst e'
      obtain ⟨q0, k1, k2⟩ := hrow _ hc
      exact hne (h.sep.ginj.1 k j q0 q _ k1 h2 k2 hb)
  · obtain ⟨c', hx', _⟩ := hB hx
    exact h.sep.base g t c' hx'
  · obtain ⟨c1, hx', _⟩ := hB hx
    obtain ⟨c2, hy', _⟩ := hB hy
    exact h.sep.inj g g' _ _ _ _ hx' hy' e
  · rcases look_cases hj with ⟨rfl, rfl⟩ | ⟨hne, h2⟩ <;> rcases look_cases hj' with ⟨h3, h3'⟩ | ⟨hne', h4⟩
    · exact h3
    · rw [Env.updG_same] at hb
      rw [Env.updG_ne E v' (fun e => hne' e.symm)] at hb'
      exfalso
      rcases hat b hb with h5 | h5
      · obtain ⟨q0, k1, k2⟩ := hrow b h5
        exact hne' (h.sep.ginj.1 _ _ q0 y b k1 h4 k2 hb')
      · have := oldlt j' y b h4 hb'; omega
    · subst h3
      rw [Env.updG_same] at hb'
      rw [Env.updG_ne E v' (fun e => hne e.symm)] at hb
      exfalso
      rcases hat b hb' with h5 | h5
      · obtain ⟨q0, k1, k2⟩ := hrow b h5
        exact hne (h.sep.ginj.1 _ _ q0 x b k1 h2 k2 hb)
      · have := oldlt j x b h2 hb; omega
    · rw [Env.updG_ne E v' (fun e => hne e.symm)] at hb
      rw [Env.updG_ne E v' (fun e => hne' e.symm)] at hb'
      exact h.sep.ginj.1 j j' x y b h2 h4 hb hb'
  · rcases look_cases hj with ⟨rfl, rfl⟩ | ⟨hne, h2⟩
    · rw [Env.updG_same] at hb
      rcases hat b hb with h3 | h3
      · exact (hrowB b h3).1
      · exact .inl (Nat.le_trans h.size0 h3)
    · rw [Env.updG_ne E v' (fun e => hne e.symm)] at hb
      exact h.sep.ginj.2 j x b h2 hb
  · obtain ⟨c', hx', _⟩ := hB hx
    have hlt : E.ρ g < w.heap.size := (h.mem.blk g t c' hx').lt
    rcases look_cases hj with ⟨rfl, rfl⟩ | ⟨hne, h2⟩
    · rw [Env.updG_same]
      intro he
      rcases hat _ he with h5 | h5
      · obtain ⟨q0, k1, k2⟩ := hrow _ h5
        exact h.sep.mix g k _ _ q0 hx' k1 k2
      · have h6 : E.ρ g = (E.updG k v').ρ g := rfl
        omega
    · rw [Env.updG_ne E v' (fun e => hne e.symm)]
      exact h.sep.mix g j _ _ y hx' h2
  · -- first narrow, then move
    refine HeldIn.move (w := w) (HeldIn.mono (R' := fun b => Apart X.w0.heap.size X.R bf grs E b ∧ Apart X.w0.heap.size X.R bf' ((k, q') :: grs) (E.updG k v') b) (h.sep.held g Φ (hH hΦ)) fun b hb h1 => ⟨h1, hap b hb h1⟩) hg.size (fun b hb h1 => hkeep b hb (hapr b h1.1)) |>.mono fun b _ h1 => h1.2

def SState.setgr (st : SState) (k : Nat) (v : Value) (q : GQ) : SState :=
  { slots := subSlots k v st.slots, m := { st.m with blks := subBlks k v st.m.blks, grs := (k, q) :: st.m.grs } }
theorem St.setgr (S : St X st E a w) (k : Nat) (q' : GQ) {w' : World} {v' : Value} {row : Option Nat} (hg : w.grownBy w' row) (hrow : ∀ b, row = some b → ∃ q, look st.m.grs k = some q ∧ (E.gr k).ownBlock = some b)
    (hown : GrAt w' 0 q' v') (hat : ∀ b, v'.ownBlock = some b → row = some b ∨ w.heap.size ≤ b) : St X (st.setgr k (E.gr k) q') (E.updG k v') a w' := by
  have := StF.setgr S k q' hg hrow hown hat
  unfold St
  simp only [SState.setgr]
  rw [show look (subSlots k (E.gr k) st.slots) = fun t => (look st.slots t).map (SV.subG k (E.gr k)) from funext (look_subSlots _ _ _), show look (subBlks k (E.gr k) st.m.blks) = fun g => (look st.m.blks g).map (BE.subG k (E.gr k)) from funext (look_subBlks _ _ _)]
  exact this
/-- an empty slice that is to grow -/
theorem St.nilgr (S : St X st E a w) (k : Nat) (ty : TypeId) (n : Nat) : St X (st.setgr k (E.gr k) ⟨ty, n, 0, []⟩) (E.updG k (.slice none 0 0)) a w :=
  S.setgr k _ (row := none) ⟨rfl, rfl, rfl, Nat.le_refl _, fun _ _ _ => rfl⟩ (fun b hb => by cases hb) (World.ownsRow_nil _ _ _ _) (fun b hb => by simp [Value.ownBlock] at hb)
theorem owns_mono {w : World} {B B' : Nat} {e : TypeId} {size n : Nat} {v : Value} {xs : List Value} (h : w.ownsRow B e size v n xs) (hB : B' ≤ B) : w.ownsRow B' e size v n xs :=
  ⟨h.1, h.2.imp id fun ⟨g, cap, cur, h1, h2, h3⟩ => ⟨g, cap, cur, h1, Nat.le_trans hB h2, h3⟩⟩

/-! a region, opened -/
theorem sym_open {id : Nat} {ops : List Oper} {rest : Code} {Q : Exit → Act → World → Prop} (h : wpList P ops.toArray (Exit.then (rest.wp P Q) Q) ops a w) : (Code.seq (Code.region id ops.toArray false) rest).wp P Q a w := wp_seq (wp_region_lit h)
theorem sym_open_last {id : Nat} {ops : List Oper} {Q : Exit → Act → World → Prop} (h : wpList P ops.toArray Q ops a w) : (Code.region id ops.toArray false).wp P Q a w := wp_region_lit h
/-- the next operations, reckoned -/
def evalN (lay : Lay) (ops : List Oper) (hs : List (Nat × Hint)) (i n : Nat) (l : List Oper) (st : SState) : Option (SState × List Ob) := match evalOps lay ops hs i (l.take n) st with
  | some (_, obs, st') => some (st', obs)
  | none => none
theorem sym_run {lay : Lay} (hl : LayOK P lay) {ops l : List Oper} (hs : List (Nat × Hint)) (i n : Nat) (st' : SState) (obs : List Ob) {Q : Exit → Act → World → Prop} (S : St X st E a w) (hn : dstB X.n l = true)
    (hev : evalN lay ops hs i n l st = some (st', obs)) (ho : AllOb P X.w0.heap.size obs) (k : ∀ E' a' w', St X st' E' a' w' → wpList P ops.toArray Q (l.drop n) a' w') : wpList P ops.toArray Q l a w := by
  unfold evalN at hev
  cases h1 : evalOps lay ops hs i (l.take n) st with
  | none => rw [h1] at hev; simp at hev
  | some r =>
    obtain ⟨tr, obs2, st2⟩ := r
    rw [h1] at hev
    simp only [Option.some.injEq, Prod.mk.injEq] at hev
    obtain ⟨rfl, rfl⟩ := hev
    have := seq_sound (X := X) (Q := Q) (rest := l.drop n) hl (l.take n) i st tr obs2 st2 E a w h1 ho (fun o ho => dstB_ok hn o (List.mem_of_mem_take ho)) S k
    rwa [List.take_append_drop] at this
theorem sym_done {ops : List Oper} {l : List Oper} {Q : Exit → Act → World → Prop} (hl : l = []) (h : Q .normal a w) : wpList P ops.toArray Q l a w := by subst hl; exact h
/-- fewer things known -/
theorem St.pick (S : St X st E a w) (ks gs : List Nat) (st' : SState) (h : (⟨pickL ks st.slots, { st.m with blks := pickL gs st.m.blks }⟩ : SState) = st') : St X st' E a w := by
  subst h
  exact StF.weak S (fun t sv h => pickL_sub _ _ _ _ h) (fun g x h => pickL_sub _ _ _ _ h)
/-- append of a row of the call's own -/
theorem sym_append {lay : Lay} (hl : LayOK P lay) {ops l r : List Oper} {o : Oper} {Q : Exit → Act → World → Prop} (hL : l = o :: r) (x y : Operand) (t : TypeId) (ho : o.op = .call { callee := .builtin .append, args := #[x, y], argTypes := #[t, t] }) (hgd : o.guard = none)
    (S : St X st E a w) (k g len m cap : Nat) (ty : TypeId) (cs : List SV) (q : GQ) (d dt : TyD) (hx : opnd st.slots x = some (.gr k)) (hq : look st.m.grs k = some q) (hy : opnd st.slots y = some (.row g 0 m cap)) (hg : look st.m.blks g = some (.blk ty cs))
    (hdt : look lay t = some dt) (hsl : dt.k = .sli q.ty q.n) (hd : look lay q.ty = some d) (hn : d.n = q.n) (hpos : 0 < q.n) (hcs : cs.length = m * q.n) (hone : cs.all (oneB st.m) = true) (hdn : ∀ e, o.dst = some e → e < X.n)
    (q' : GQ) (e1 : q'.ty = q.ty) (e2 : q'.n = q.n) (e3 : q'.len = q.len + m) (e4 : ∀ E, q'.xs = q.xs ++ SV.vals E cs) (hb1 : q.len + m ≤ 4611686018427387904) (hb2 : (q.len + m) * d.by' ≤ 140737488355328) (hlen : len = len)
    (kk : ∀ v0 E' a' w', St X { st.setgr k v0 q' with slots := match o.dst with | some d => (d, .gr k) :: (st.setgr k v0 q').slots | none => (st.setgr k v0 q').slots } E' a' w' → wpList P ops.toArray Q r a' w') : wpList P ops.toArray Q l a w := by
  subst hL
  have ev : ∀ z sv, opnd st.slots z = some sv → a.eval z = sv.val E := fun z sv hz => by
    cases z with
    | tmp t => simp only [opnd] at hz; have := S.slot t sv hz; simp [Act.eval, this]
    | const v => simp [opnd] at hz; subst hz; rfl
    | global g => simp [opnd] at hz; subst hz; rfl
    | func f => simp [opnd] at hz; subst hz; rfl
  obtain ⟨u, hu, hmm⟩ := (hl t dt hdt).under
  rw [hsl] at hmm
  obtain ⟨rfl, hkn, hes⟩ := hmm
  obtain ⟨_, i, hi, his, z, hz, hzc⟩ := (hl q.ty d hd).size
  have hby : i.bytes = d.by' := by have := (hl q.ty d hd).bytes; simpa [Program.bytesOf, hi] using this
  have hzs : z.cells.size = q.n := by
    have := (hl q.ty d hd).zlen
    rw [← hn, ← this, ← hzc]
    simp
  have hG := S.mem.gr k q hq
  have hB := S.mem.blk g ty cs hg
  have hgr : Nice E st.m := ⟨fun k q hq => by
    obtain ⟨A, c, e⟩ := gr_slice (S.mem.gr k q hq)
    exact ⟨A, _, c, e⟩, S.mem.one⟩
  refine wpList_append_own_at w hgd x y t ho 0 q.ty i z q.n d.by' hu hi hz (his.trans hn) hby hzs hpos (E.gr k) q.len q.xs (ev x _ hx) hG ⟨E.ρ g, 0, none⟩ m cap (SV.vals E cs) (ev y _ hy) (by rw [vals_length, hcs]) (fun j u hj => by
    rw [add_plain', Nat.zero_add, hB.cell]; simpa using hj) (fun v hv => ?_) (by simp only [maxLen]; omega) hb2 (Nat.zero_le _) ?_
  · rw [SV.vals_map] at hv
    obtain ⟨s, hs, rfl⟩ := List.mem_map.1 hv
    exact oneB_ok hgr (List.all_eq_true.1 hone s hs)
  · intro v' w' hown hgrow _ hat
    have S' := S.setgr k q' (row := (E.gr k).ownBlock) hgrow (fun b hb => ⟨q, hq, hb⟩) (by unfold GrAt; rw [e1, e2, e3, e4 E]; exact hown) (fun b hb => by
      rcases hat with h1 | h1
      · rw [h1] at hb; exact .inl hb
      · rw [h1] at hb; simp only [Option.some.injEq] at hb; omega)
    have S2 := StF.putD S' hdn (.gr k)
    simp only [SV.val, Env.updG_same] at S2
    refine kk (E.gr k) (E.updG k v') (a.put o.dst v') w' ?_
    unfold St
    cases hdst : o.dst with
    | none => rw [hdst] at S2; exact S2
    | some e =>
      rw [hdst] at S2
      simp only
      rw [look_upd]
      exact S2
end Go.Proofs.Ytlcccomdijdkaaa
namespace Go.Proofs.Ytlcccomdijdkaaa
open Go.RowKit

variable {P : Program} {X : Ctx} {sf : Nat → Option SV} {bf : BF} {rds : List (Nat × Q)} {grs : List (Nat × GQ)} {E : Env} {a : Act} {w : World} {st : SState}

/-- letter i is such a slice -/
def SliceIs (i : Nat) (q : Q) : (Nat → Value) → World → Prop := fun v w => ∃ A cap, v i = .slice A q.len cap ∧ q.len ≤ cap ∧ SlAt w A q.len q.n q.get
def SlicesAre : Nat → List Q → (Nat → Value) → World → Prop
  | _, [], _, _ => True
  | i, q :: r, v, w => SliceIs i q v w ∧ SlicesAre (i + 1) r v w
/-- what is held of a slice cannot hang on other blocks than its own -/
theorem HeldIn.row {R : Nat → Prop} {A : Option Addr} {len n : Nat} {get : Nat → List Value} {Φ : World → Prop} (h : HeldIn R w Φ) (hs : ∀ w, Φ w → SlAt w A len n get) (h0 : 0 < len → get 0 ≠ []) : InR R A len := fun b off hl hA => by
  obtain ⟨D, hD, hk⟩ := h
  by_cases hb : D b
  · exact (hD b hb).2
  · exfalso
    have h1 := hs _ (hk { w with heap := w.heap.setIfInBounds b (.cells #[] 0 (0, 0)) } fun k hkD => by
      have hne : b ≠ k := fun e => hb (e ▸ hkD)
      simp [Array.getElem?_setIfInBounds_ne hne])
    obtain ⟨b', off', hA', hlt, hc⟩ := h1 hl
    rw [hA] at hA'
    have e : b = b' := by simpa using congrArg (fun o => (o.map Addr.block).getD 0) hA'
    subst e
    cases hg : get 0 with
    | nil => exact h0 hl hg
    | cons v r =>
      have := hc 0 hl 0 v (by simp [hg])
      simp only [Array.size_setIfInBounds] at hlt
      simp [World.cell?, hlt] at this

mutual
/-- letter i of g is the slice s now; false: x speaks of s -/
def SV.rdX (g i s : Nat) : SV → SV
  | .ltr g' i' => bif Nat.beq g' g && Nat.beq i' i then .sl s else .ltr g' i'
  | .agg xs => .agg (SV.rdXs g i s xs)
  | .tup xs => .tup (SV.rdXs g i s xs)
  | .fn f cap => .fn f (SV.rdXs g i s cap)
  | .gd d want W x => .gd d want W (SV.rdX g i s x)
  | .v x => .v x
  | .own g off => .own g off
  | .sl s => .sl s
  | .at s i off => .at s i off
  | .gr k => .gr k
  | .row g off len cap => .row g off len cap
  | .sub s' a b => .sub s' a b
def SV.rdXs (g i s : Nat) : List SV → List SV
  | [] => []
  | x :: xs => x.rdX g i s :: SV.rdXs g i s xs
end
mutual
def SV.noS (s : Nat) : SV → Bool
  | .sl s' => !Nat.beq s' s
  | .sub s' _ _ => !Nat.beq s' s
  | .at s' _ _ => !Nat.beq s' s
  | .agg xs => SV.noSs s xs
  | .tup xs => SV.noSs s xs
  | .fn _ cap => SV.noSs s cap
  | .gd _ _ _ x => x.noS s
  | _ => true
def SV.noSs (s : Nat) : List SV → Bool
  | [] => true
  | x :: xs => x.noS s && SV.noSs s xs
end
def Env.updS (E : Env) (s : Nat) (r : RS) : Env := { E with sl := fun k => if k = s then r else E.sl k }
theorem Env.updS_same (E : Env) (s : Nat) (r : RS) : (E.updS s r).sl s = r := by simp [Env.updS]
theorem Env.updS_ne (E : Env) {s k : Nat} (r : RS) (h : k ≠ s) : (E.updS s r).sl k = E.sl k := by simp [Env.updS, h]
mutual
theorem SV.val_rdX (E : Env) (g i s : Nat) (r : RS) (hx : E.x g i = .slice r.A r.len r.cap) : ∀ x : SV, x.noS s = true → (x.rdX g i s).val (E.updS s r) = x.val E
  | .ltr g' i', _ => by
    cases h : (Nat.beq g' g && Nat.beq i' i) with
    | true =>
      have h2 := h
      simp only [Bool.and_eq_true, Nat.beq_eq] at h2
      obtain ⟨rfl, rfl⟩ := h2
      simp only [SV.rdX, h, cond_true, SV.val, Env.updS_same, hx]
    | false => simp [SV.rdX, h, SV.val, Env.updS]
  | .sl s', h => by
    simp only [SV.noS, Bool.not_eq_true'] at h
    have : s' ≠ s := fun e => by subst e; simp at h
    simp [SV.rdX, SV.val, Env.updS_ne E r this]
  | .at s' _ _, h => by
    simp only [SV.noS, Bool.not_eq_true'] at h
    have : s' ≠ s := fun e => by subst e; simp at h
    simp [SV.rdX, SV.val, Env.updS_ne E r this]
  | .agg xs, h => by simp only [SV.rdX, SV.val, SV.vals_rdX E g i s r hx xs h]
  | .tup xs, h => by simp only [SV.rdX, SV.val, SV.vals_rdX E g i s r hx xs h]
  | .fn f cap, h => by simp only [SV.rdX, SV.val, SV.vals_rdX E g i s r hx cap h]
  | .gd d want W x, h => by simp only [SV.rdX, SV.val, SV.val_rdX E g i s r hx x h]
  | .v x, _ => by simp [SV.rdX, SV.val]
  | .own g off, _ => by simp [SV.rdX, SV.val, Env.updS]
  | .gr k, _ => by simp [SV.rdX, SV.val, Env.updS]
  | .row g off len cap, _ => by simp [SV.rdX, SV.val, Env.updS]
  | .sub s' _ _, h => by
    simp only [SV.noS, Bool.not_eq_true'] at h
    have : s' ≠ s := fun e => by subst e; simp at h
    simp [SV.rdX, SV.val, Env.updS_ne E r this]
theorem SV.vals_rdX (E : Env) (g i s : Nat) (r : RS) (hx : E.x g i = .slice r.A r.len r.cap) : ∀ xs : List SV, SV.noSs s xs = true → SV.vals (E.updS s r) (SV.rdXs g i s xs) = SV.vals E xs
  | [], _ => by simp [SV.rdXs, SV.vals]
  | x :: xs, h => by
    simp only [SV.noSs, Bool.and_eq_true] at h
    simp only [SV.rdXs, SV.vals, SV.val_rdX E g i s r hx x h.1, SV.vals_rdX E g i s r hx xs h.2]
end
def rdXS (g i s : Nat) : List (Nat × SV) → List (Nat × SV)
  | [] => []
  | (t, x) :: r => (t, x.rdX g i s) :: rdXS g i s r
def BE.rdX (g i s : Nat) : BE → BE
  | .blk t cs => .blk t (SV.rdXs g i s cs)
  | .held Φ => .held Φ
def rdXB (g i s : Nat) : List (Nat × BE) → List (Nat × BE)
  | [] => []
  | (k, y) :: r => (k, y.rdX g i s) :: rdXB g i s r
def noSS (s : Nat) : List (Nat × SV) → Bool
  | [] => true
  | (_, x) :: r => x.noS s && noSS s r
def noSB (s : Nat) : List (Nat × BE) → Bool
  | [] => true
  | (_, .blk _ cs) :: r => SV.noSs s cs && noSB s r
  | (_, .held _) :: r => noSB s r
theorem look_rdXS (g i s : Nat) : ∀ (l : List (Nat × SV)) (t : Nat), look (rdXS g i s l) t = (look l t).map (SV.rdX g i s)
  | [], t => rfl
  | (j, x) :: r, t => by
    by_cases h : j = t
    · subst h; simp [rdXS, look_same]
    · simp only [rdXS]; rw [look_ne h, look_ne h]; exact look_rdXS g i s r t
theorem look_rdXB (g i s : Nat) : ∀ (l : List (Nat × BE)) (t : Nat), look (rdXB g i s l) t = (look l t).map (BE.rdX g i s)
  | [], t => rfl
  | (j, x) :: r, t => by
    by_cases h : j = t
    · subst h; simp [rdXB, look_same]
    · simp only [rdXB]; rw [look_ne h, look_ne h]; exact look_rdXB g i s r t
theorem BE.rdX_blk {g i s : Nat} {o : Option BE} {t : TypeId} {cs : List SV} (h : o.map (BE.rdX g i s) = some (.blk t cs)) : ∃ c', o = some (.blk t c') ∧ cs = SV.rdXs g i s c' := by
  cases o with
  | none => simp at h
  | some y =>
    cases y with
    | blk t' c' => simp only [Option.map_some, BE.rdX, Option.some.injEq, BE.blk.injEq] at h; obtain ⟨rfl, rfl⟩ := h; exact ⟨c', rfl, rfl⟩
    | held Φ => simp [BE.rdX] at h
theorem BE.rdX_held {g i s : Nat} {o : Option BE} {Φ : (Nat → Value) → World → Prop} (h : o.map (BE.rdX g i s) = some (.held Φ)) : o = some (.held Φ) := by
  cases o with
  | none => simp at h
  | some y =>
    cases y with
    | blk t' c' => simp [BE.rdX] at h
    | held Φ' => simp only [Option.map_some, BE.rdX, Option.some.injEq, BE.held.injEq] at h; subst h; rfl
theorem noSS_ok {s : Nat} : ∀ {l : List (Nat × SV)}, noSS s l = true → ∀ t x, look l t = some x → x.noS s = true
  | [], _, t, x, h => by simp [look] at h
  | (k, y) :: r, hf, t, x, h => by
    simp only [noSS, Bool.and_eq_true] at hf
    rcases look_cases h with ⟨_, rfl⟩ | ⟨_, h2⟩
    · exact hf.1
    · exact noSS_ok hf.2 t x h2
theorem noSB_ok {s : Nat} : ∀ {l : List (Nat × BE)}, noSB s l = true → ∀ g t cs, look l g = some (.blk t cs) → SV.noSs s cs = true
  | [], _, g, t, cs, h => by simp [look] at h
  | (k, .held Φ) :: r, hf, g, t, cs, h => by
    rcases look_cases h with ⟨_, e⟩ | ⟨_, h2⟩
    · cases e
    · exact noSB_ok (l := r) hf g t cs h2
  | (k, .blk t' c') :: r, hf, g, t, cs, h => by
    simp only [noSB, Bool.and_eq_true] at hf
    rcases look_cases h with ⟨_, e⟩ | ⟨_, h2⟩
    · simp only [BE.blk.injEq] at e
      obtain ⟨_, rfl⟩ := e
      exact hf.1
    · exact noSB_ok hf.2 g t cs h2
/-- a slice that was returned is read -/
def SState.read (st : SState) (g i s : Nat) (q : Q) : SState := ⟨rdXS g i s st.slots, { st.m with blks := rdXB g i s st.m.blks, rds := (s, q) :: st.m.rds }⟩
theorem St.read (g i s : Nat) (q : Q) (st' : SState) {Φ : (Nat → Value) → World → Prop} (hg : look st.m.blks g = some (.held Φ)) (hΦ : ∀ v w, Φ v w → SliceIs i q v w) (h0 : 0 < q.len → q.get 0 ≠ []) (hn : (noSS s st.slots && noSB s st.m.blks && Nat.ble 1000 s) = true) (hst : st.read g i s q = st') (S : St X st E a w) : ∃ E', St X st' E' a w := by
  subst hst
  simp only [Bool.and_eq_true] at hn
  obtain ⟨hn, hs⟩ := hn
  have hs := Nat.le_of_ble_eq_true hs
  have hH := S.sep.held g Φ hg
  obtain ⟨A, cap, hv, hcap, hsl⟩ := hΦ _ _ hH.out
  have hR : InR (Apart X.w0.heap.size X.R (look st.m.blks) st.m.grs E) A q.len := hH.row (fun w' hw' => by
    obtain ⟨A', cap', hv', _, hsl'⟩ := hΦ _ _ hw'
    rw [hv] at hv'
    have e : A = A' := by injection hv'
    rw [e]
    exact hsl') h0
  refine ⟨E.updS s ⟨A, q.len, cap, q.n⟩, ?_⟩
  unfold St
  simp only [SState.read]
  rw [show look (rdXS g i s st.slots) = fun t => (look st.slots t).map (SV.rdX g i s) from funext (look_rdXS _ _ _ _), show look (rdXB g i s st.m.blks) = fun g' => (look st.m.blks g').map (BE.rdX g i s) from funext (look_rdXB _ _ _ _)]
  have hB : ∀ {k t cs}, (look st.m.blks k).map (BE.rdX g i s) = some (.blk t cs) → ∃ c', look st.m.blks k = some (.blk t c') ∧ cs = SV.rdXs g i s c' := fun hx => BE.rdX_blk hx
  have hap : ∀ b, Apart X.w0.heap.size X.R (look st.m.blks) st.m.grs E b → Apart X.w0.heap.size X.R (fun g' => (look st.m.blks g').map (BE.rdX g i s)) st.m.grs (E.updS s ⟨A, q.len, cap, q.n⟩) b := fun b h1 => ⟨fun ho => h1.1 (by
    rcases ho with ⟨k, t, cs, hx, e⟩ | hk
    · obtain ⟨c', hx', _⟩ := hB hx
      exact .inl ⟨k, t, c', hx', e⟩
    · exact .inr hk), h1.2⟩
  refine ⟨fun t sv ht => ?_, S.size, S.defers, S.kept, ⟨fun k t cs hx => ?_, fun k q' hq => ?_, S.mem.gr, S.mem.one⟩,
    ⟨fun k t cs hx => ?_, fun k k' t t' c c' hx hy e => ?_, S.sep.ginj, fun k j t cs y hx hy => ?_, fun k q' b off hq hl hA => ?_, fun k Ψ hx => (S.sep.held k Ψ (BE.rdX_held hx)).mono fun b _ => hap b⟩, S.pin.1, fun k hk => (Env.updS_ne E _ (by omega)).trans (S.pin.2.1 k hk), S.pin.2.2⟩
  · cases hsf : look st.slots t with
    | none => simp [hsf] at ht
    | some x =>
      simp only [hsf, Option.map_some, Option.some.injEq] at ht
      subst ht
      rw [SV.val_rdX E g i s _ hv x (noSS_ok hn.1 t x hsf)]
      exact S.slot t x hsf
  · obtain ⟨c', hx', rfl⟩ := hB hx
    rw [SV.vals_rdX E g i s _ hv c' (noSB_ok hn.2 k t c' hx')]
    exact S.mem.blk k t c' hx'
  · rcases look_cases hq with ⟨rfl, rfl⟩ | ⟨hne, h2⟩
    · rw [Env.updS_same]
      exact hsl.rd hcap
    · rw [Env.updS_ne E _ (fun e => hne e.symm)]
      exact S.mem.rd k q' h2
  · obtain ⟨c', hx', _⟩ := hB hx
    exact S.sep.base k t c' hx'
  · obtain ⟨c1, hx', _⟩ := hB hx
    obtain ⟨c2, hy', _⟩ := hB hy
    exact S.sep.inj k k' _ _ _ _ hx' hy' e
  · obtain ⟨c', hx', _⟩ := hB hx
    exact S.sep.mix k j _ _ y hx' hy
  · rcases look_cases hq with ⟨rfl, rfl⟩ | ⟨hne, h2⟩
    · rw [Env.updS_same] at hA
      exact hap b (hR b off hl hA)
    · rw [Env.updS_ne E _ (fun e => hne e.symm)] at hA
      exact hap b (S.sep.rd k q' b off h2 hl hA)
end Go.Proofs.Ytlcccomdijdkaaa
namespace Go.Proofs.Ytlcccomdijdkaaa
open Go.ChangeShapes Go.WideShapes Go.ChangeAt Go.RowKit Go.Deep

theorem cell_lt {w : World} {b o : Nat} {v : Value} (h : w.cell? ⟨b, o, none⟩ = some v) : b < w.heap.size := by
  rcases Nat.lt_or_ge b w.heap.size with h1 | h1
  · exact h1
  · simp [World.cell?, h1] at h

section
variable {P : Program} {w : World} {r : Reach} {base : Nat} {t : TypeId} {v : Value}
theorem okInt {k : IntKind} (ht : P.underlying t = some (.int k)) (h : Value.okWide P w r base t v) : ∃ n, v = .int k n ∧ k.min ≤ n ∧ n ≤ k.max := by
  simp only [Value.okWide, ht, Cell.okWide] at h
  cases v <;> simp_all [Cell.ok, IntKind.has]

theorem okAgg {k : IntKind} {n : Nat} {ts : List TypeId} (hs : (∃ fs, P.underlying t = some (.struct fs)) ∨ ∃ a b, P.underlying t = some (.array a b)) (hn : P.cellsOf t = n) (hts : P.cellTypes P.depth t = some ts)
    (hall : ∀ u ∈ ts, P.underlying u = some (TypeDesc.int k)) (h : Value.okWide P w r base t v) : ∃ xs : List Int, xs.length = n ∧ v = .agg (xs.map (Value.int k)).toArray ∧ ∀ x ∈ xs, k.min ≤ x ∧ x ≤ k.max := by
  have h' : ∃ cs, v = .agg cs ∧ cs.size = P.cellsOf t ∧ Row.okWide P w r base t cs := by
    rcases hs with ⟨fs, hs⟩ | ⟨a, b, hs⟩ <;> · simp only [Value.okWide, hs] at h; exact h
  obtain ⟨cs, rfl, hsz, ts', hts', _, hc⟩ := h'
  rw [hts] at hts'
  cases hts'
  have key : ∀ (i : Nat) (v : Value), cs[i]? = some v → ∃ n, v = Value.int k n ∧ k.min ≤ n ∧ n ≤ k.max := by
    intro i v hv
    obtain ⟨u, hu, hok⟩ := hc i v hv
    have hu'' := hall u (List.mem_of_getElem? hu)
    simp only [Cell.okWide, hu''] at hok
    cases v <;> simp_all [Cell.ok, IntKind.has]
  obtain ⟨cs⟩ := cs
  have key' : ∀ v ∈ cs, ∃ n, v = Value.int k n ∧ k.min ≤ n ∧ n ≤ k.max := by
    intro v hv
    obtain ⟨i, hi⟩ := List.mem_iff_getElem?.1 hv
    exact key i v (by simpa using hi)
  have : ∀ cs : List Value, (∀ v ∈ cs, ∃ n, v = Value.int k n ∧ k.min ≤ n ∧ n ≤ k.max) → ∃ xs : List Int, cs = xs.map (Value.int k) ∧ ∀ x ∈ xs, k.min ≤ x ∧ x ≤ k.max := by
    intro cs
    induction cs with
    | nil => exact fun _ => ⟨[], rfl, by simp⟩
    | cons c cs ih =>
      intro hall
      obtain ⟨n, rfl, hn⟩ := hall c (by simp)
      obtain ⟨xs, rfl, hx⟩ := ih (fun v hv => hall v (by simp [hv]))
      exact ⟨n :: xs, rfl, by simpa using ⟨hn, hx⟩⟩
  obtain ⟨xs, rfl, hx⟩ := this cs key'
  exact ⟨xs, by simpa [hn] using hsz, rfl, hx⟩
end

set_option maxRecDepth 100000 in
theorem open_span {w : World} {r : Reach} {base : Nat} {v : Value} (h : Value.okWide Try.prog w r base 23 v) : ∃ a0 a1 : Int, v = .agg #[.int .i64 a0, .int .i64 a1] ∧ (-9223372036854775808 ≤ a0 ∧ a0 ≤ 9223372036854775807) ∧ (-9223372036854775808 ≤ a1 ∧ a1 ≤ 9223372036854775807) := by
  obtain ⟨xs, hn, rfl, hx⟩ := okAgg (k := .i64) (n := 2) (ts := [3, 3]) (.inl ⟨_, Try.underlying23⟩) (by kernel_rfl) (by kernel_rfl) (by intro u hu; simp at hu; subst hu; exact Try.underlying3) h
  match xs, hn with
  | [a0, a1], _ => exact ⟨a0, a1, rfl, hx a0 (by simp), hx a1 (by simp)⟩
section
variable {H : Type} {enc : TypeId × Value → H} {P : Program} {w : World} {base : Nat} {spare : Nat → Bool} {held : Bool}
theorem weightsAll_mem {e : TypeId} {ds : List (DataW H)} {d : DataW H} (hd : d ∈ ds) {n : Nat} (hn : n ∈ d.weights P e) : n ∈ DataW.weightsAll P e ds := by
  induction ds with
  | nil => cases hd
  | cons x ds ih =>
    rw [DataW.weightsAll, List.mem_append]
    rcases List.mem_cons.1 hd with rfl | h
    · exact .inl hn
    · exact .inr (ih h)

theorem wf_i64 {n : Int} (h : (Lit.int .i64 n).wf = true) : -9223372036854775808 ≤ n ∧ n ≤ 9223372036854775807 := by
  simp only [Lit.wf, Bool.and_eq_true, decide_eq_true_eq] at h
  have h1 : IntKind.i64.min = -9223372036854775808 := rfl
  have h2 : IntKind.i64.max = 9223372036854775807 := rfl
  omega

end

section
variable {H : Type} {enc : TypeId × Value → H} {w : World} {base : Nat} {spare : Nat → Bool} {held : Bool}
set_option maxRecDepth 100000 in
theorem open_i64s_at {fuel : Nat} {v : Value} {x : DataW H × List MemPlace} (h : DataW.trod enc Try.prog w base spare held fuel 33 [v] = some x) (hw : ∀ n ∈ x.1.weights Try.prog 33, n ≤ reachBytes) :
    ∃ (A : Option Addr) (xs : List Int) (c : Nat), v = .slice A xs.length c ∧ xs.length ≤ c ∧ (SlAt w A xs.length 1 fun i => [.int .i64 (xs.getD i default)]) ∧ xs.length ≤ 140737488355328 ∧ ∀ j, -9223372036854775808 ≤ xs.getD j default ∧ xs.getD j default ≤ 9223372036854775807 := by
  rcases open_ints Try.underlying33 Try.underlying3 (by kernel_rfl) h with ⟨hcs, _⟩ | ⟨a, len, cap, zs, hcs, _, hl, _, hz, hx, hcell, hwf⟩
  · simp only [List.cons.injEq, and_true] at hcs
    exact ⟨none, [], 0, hcs, Nat.le_refl _, fun h => absurd h (Nat.lt_irrefl 0), by simp, fun j => by simp only [List.getD_nil]; decide⟩
  · simp only [List.cons.injEq, and_true] at hcs
    have hlz : len ≤ zs.length := by rw [hz]; split <;> omega
    have hlen : (zs.take len).length = len := by simp; omega
    have h1 := hw (((lits (H := H) .i64 (zs.take len)).length + (lits (H := H) .i64 (zs.drop len)).length) * Try.prog.bytesOf 3) (by rw [hx]; simp [DataW.weights, Try.underlying33])
    rw [show Try.prog.bytesOf 3 = 8 by kernel_rfl] at h1
    simp only [lits, List.length_map, reachBytes] at h1
    refine ⟨some a, zs.take len, cap, by rw [hlen]; exact hcs, by rw [hlen]; exact hl, fun h0 => ?_, by omega, fun j => ?_⟩
    · obtain ⟨b, off, rfl, hc'⟩ := ints_at hcell (by omega)
      refine ⟨b, off, rfl, cell_lt (hc' 0 (by omega)), fun i hi j v hj => ?_⟩
      cases j with
      | succ j => simp at hj
      | zero =>
        simp only [List.getElem?_cons_zero, Option.some.injEq] at hj
        subst hj
        rw [Nat.mul_one, Nat.add_zero, hc' i (by omega)]
        have : i < len := by omega
        simp [List.getD, List.getElem?_take, this]
    · rw [List.getD]
      cases hj : (zs.take len)[j]? with
      | none => simp only [Option.getD_none]; decide
      | some n =>
        have h2 := hwf n (List.mem_of_mem_take (List.mem_of_getElem? hj))
        simp only [Lit.wf, Bool.and_eq_true, decide_eq_true_eq] at h2
        have h3 : IntKind.i64.min = -9223372036854775808 := rfl
        have h4 : IntKind.i64.max = 9223372036854775807 := rfl
        simp only [Option.getD_some]
        omega
set_option maxRecDepth 100000 in
theorem open_i64s {r : Reach} {b0 : Nat} {v : Value} {d : DataW H} {p : List MemPlace} (hv : Value.okWide Try.prog w r b0 33 v) (h : DataW.Trod enc Try.prog w base spare held 33 v d p) (hw : ∀ n ∈ d.weights Try.prog 33, n ≤ reachBytes) :
    ∃ (A : Option Addr) (xs : List Int) (c : Nat), v = .slice A xs.length c ∧ xs.length ≤ c ∧ (SlAt w A xs.length 1 fun i => [.int .i64 (xs.getD i default)]) ∧ xs.length ≤ 140737488355328 ∧ ∀ j, -9223372036854775808 ≤ xs.getD j default ∧ xs.getD j default ≤ 9223372036854775807 := by
  obtain ⟨a0, l0, c0, rfl⟩ := okWide_slice Try.underlying33 hv
  obtain ⟨fuel, hf⟩ := h
  exact open_i64s_at (v := .slice a0 l0 c0) (x := (d, p)) hf hw
set_option maxRecDepth 100000 in
theorem open_u32s_at {fuel : Nat} {v : Value} {x : DataW H × List MemPlace} (h : DataW.trod enc Try.prog w base spare held fuel 54 [v] = some x) (hw : ∀ n ∈ x.1.weights Try.prog 54, n ≤ reachBytes) :
    ∃ (A : Option Addr) (xs : List Int) (c : Nat), v = .slice A xs.length c ∧ xs.length ≤ c ∧ (SlAt w A xs.length 1 fun i => [.int .u32 (xs.getD i default)]) ∧ xs.length ≤ 140737488355328 ∧ ∀ j, 0 ≤ xs.getD j default ∧ xs.getD j default ≤ 4294967295 := by
  rcases open_ints Try.underlying54 Try.underlying48 (by kernel_rfl) h with ⟨hcs, _⟩ | ⟨a, len, cap, zs, hcs, _, hl, _, hz, hx, hcell, hwf⟩
  · simp only [List.cons.injEq, and_true] at hcs
    exact ⟨none, [], 0, hcs, Nat.le_refl _, fun h => absurd h (Nat.lt_irrefl 0), by simp, fun j => by simp only [List.getD_nil]; decide⟩
  · simp only [List.cons.injEq, and_true] at hcs
    have hlz : len ≤ zs.length := by rw [hz]; split <;> omega
    have hlen : (zs.take len).length = len := by simp; omega
    have h1 := hw (((lits (H := H) .u32 (zs.take len)).length + (lits (H := H) .u32 (zs.drop len)).length) * Try.prog.bytesOf 48) (by rw [hx]; simp [DataW.weights, Try.underlying54])
    rw [show Try.prog.bytesOf 48 = 4 by kernel_rfl] at h1
    simp only [lits, List.length_map, reachBytes] at h1
    refine ⟨some a, zs.take len, cap, by rw [hlen]; exact hcs, by rw [hlen]; exact hl, fun h0 => ?_, by omega, fun j => ?_⟩
    · obtain ⟨b, off, rfl, hc'⟩ := ints_at hcell (by omega)
      refine ⟨b, off, rfl, cell_lt (hc' 0 (by omega)), fun i hi j v hj => ?_⟩
      cases j with
      | succ j => simp at hj
      | zero =>
        simp only [List.getElem?_cons_zero, Option.some.injEq] at hj
        subst hj
        rw [Nat.mul_one, Nat.add_zero, hc' i (by omega)]
        have : i < len := by omega
        simp [List.getD, List.getElem?_take, this]
    · rw [List.getD]
      cases hj : (zs.take len)[j]? with
      | none => simp only [Option.getD_none]; decide
      | some n =>
        have h2 := hwf n (List.mem_of_mem_take (List.mem_of_getElem? hj))
        simp only [Lit.wf, Bool.and_eq_true, decide_eq_true_eq] at h2
        have h3 : IntKind.u32.min = 0 := rfl
        have h4 : IntKind.u32.max = 4294967295 := rfl
        simp only [Option.getD_some]
        omega
set_option maxRecDepth 100000 in
theorem open_u32s {r : Reach} {b0 : Nat} {v : Value} {d : DataW H} {p : List MemPlace} (hv : Value.okWide Try.prog w r b0 54 v) (h : DataW.Trod enc Try.prog w base spare held 54 v d p) (hw : ∀ n ∈ d.weights Try.prog 54, n ≤ reachBytes) :
    ∃ (A : Option Addr) (xs : List Int) (c : Nat), v = .slice A xs.length c ∧ xs.length ≤ c ∧ (SlAt w A xs.length 1 fun i => [.int .u32 (xs.getD i default)]) ∧ xs.length ≤ 140737488355328 ∧ ∀ j, 0 ≤ xs.getD j default ∧ xs.getD j default ≤ 4294967295 := by
  obtain ⟨a0, l0, c0, rfl⟩ := okWide_slice Try.underlying54 hv
  obtain ⟨fuel, hf⟩ := h
  exact open_u32s_at (v := .slice a0 l0 c0) (x := (d, p)) hf hw
end
end Go.Proofs.Ytlcccomdijdkaaa
namespace Go.Proofs.Ytlcccomdijdkaaa
open Go.RowKit

variable {P : Program} {X : Ctx} {E : Env} {a : Act} {w : World} {st : SState}

def allLt : Nat → (Nat → Prop) → Prop
  | 0, _ => True
  | n + 1, p => allLt n p ∧ p n
theorem allLt.get {p : Nat → Prop} : ∀ {n : Nat}, allLt n p → ∀ i, i < n → p i
  | 0, _, i, h => absurd h (by omega)
  | n + 1, h, i, hi => by
    by_cases e : i = n
    · subst e; exact h.2
    · exact allLt.get h.1 i (by omega)
/-- a slice in a block -/
theorem SlAt.of_blk {t : TypeId} {b off len n : Nat} {vs : List Value} {get : Nat → List Value} (h : Blk w b t vs.toArray) (hg : ∀ i, i < len → ∀ j v, (get i)[j]? = some v → vs[off + (i * n + j)]? = some v) : SlAt w (some ⟨b, off, none⟩) len n get := fun _ =>
  ⟨b, off, rfl, h.lt, fun i hi j v hv => by rw [h.cell]; simpa using hg i hi j v hv⟩
/-- a literal row, handed over -/
theorem Mem.row {B : Nat} {R : Nat → Prop} {m : MState} (h : Mem B R m E w) {g : Nat} {t : TypeId} {cs : List SV} (hg : look m.blks g = some (.blk t cs)) (len n : Nat) (get : Nat → List Value) (hl : allLt len fun i => get i = ((SV.vals E cs).drop (i * n)).take n) :
    SlAt w (some ⟨E.ρ g, 0, none⟩) len n get := SlAt.of_blk (h.blk g t cs hg) fun i hi j v hv => by
  rw [allLt.get hl i hi, List.getElem?_take] at hv
  split at hv
  · rw [List.getElem?_drop] at hv
    rw [Nat.zero_add]
    exact hv
  · cases hv
/-- what grew, as a slice that is returned -/
theorem GrAt.slice {B : Nat} {q : GQ} {v : Value} (h : GrAt w 0 q v) (hB : ∀ b, v.ownBlock = some b → B ≤ b) (i : Nat) (u : Nat → Value) (hu : u i = v) (get : Nat → List Value) (hg : ∀ i, i < q.len → ∀ j x, (get i)[j]? = some x → q.xs[i * q.n + j]? = some x) : HeldIn (fun k => B ≤ k) w (SliceIs i ⟨q.len, q.n, get⟩ u) := by
  rcases h.2 with ⟨h1, h2⟩ | ⟨b, cap, cur, e, _, hb, hcap, _, hsz, hx⟩
  · refine ⟨fun _ => False, fun k hk => hk.elim, fun w' _ => ⟨none, 0, by rw [hu, h1, h2], by simp [h2], fun hl => ?_⟩⟩
    simp only [h2] at hl
    exact absurd hl (by omega)
  · refine ⟨fun k => k = b, fun k hk => by subst hk; exact ⟨(Array.getElem?_eq_some_iff.1 hb).1, hB _ (by rw [e]; rfl)⟩, fun w' hw => ⟨_, cap, hu.trans e, hcap, fun hl => ?_⟩⟩
    have hb' : Blk w' b q.ty cur := (hw b rfl).trans hb
    refine ⟨b, 0, rfl, hb'.lt, fun i hi j x hx' => ?_⟩
    rw [hb'.cell, Nat.zero_add]
    have h3 := hg i hi j x hx'
    rw [← hx, List.getElem?_take] at h3
    split at h3
    · simpa using h3
    · cases h3
theorem HeldIn.and {R : Nat → Prop} {Φ Ψ : World → Prop} (h : HeldIn R w Φ) (k : HeldIn R w Ψ) : HeldIn R w fun w => Φ w ∧ Ψ w := by
  obtain ⟨D, h1, h2⟩ := h
  obtain ⟨D', k1, k2⟩ := k
  exact ⟨fun b => D b ∨ D' b, fun b hb => hb.elim (h1 b) (k1 b), fun w' hw => ⟨h2 w' fun b hb => hw b (.inl hb), k2 w' fun b hb => hw b (.inr hb)⟩⟩
theorem HeldIn.imp {R : Nat → Prop} {Φ Ψ : World → Prop} (h : HeldIn R w Φ) (hi : ∀ w, Φ w → Ψ w) : HeldIn R w Ψ := by
  obtain ⟨D, h1, h2⟩ := h
  exact ⟨D, h1, fun w' hw => hi w' (h2 w' hw)⟩
theorem HeldIn.true {R : Nat → Prop} {Φ : World → Prop} (h : ∀ w, Φ w) : HeldIn R w Φ := ⟨fun _ => False, fun _ h => h.elim, fun w' _ => h w'⟩
theorem HeldIn.blk {R : Nat → Prop} {b : Nat} {t : TypeId} {cs : Array Value} (h : Blk w b t cs) (hR : R b) : HeldIn R w fun w => Blk w b t cs :=
  ⟨fun k => k = b, fun k hk => by subst hk; exact ⟨h.lt, hR⟩, fun w' hw => (hw b rfl).trans h⟩
theorem HeldIn.sl {R : Nat → Prop} {A : Option Addr} {len n : Nat} {get : Nat → List Value} (h : SlAt w A len n get) (hR : InR R A len) : HeldIn R w fun w => SlAt w A len n get := by
  by_cases h0 : 0 < len
  · obtain ⟨b, off, hA, hlt, hc⟩ := h h0
    exact ⟨fun k => k = b, fun k hk => by subst hk; exact ⟨hlt, hR k off h0 hA⟩, fun w' hw _ => ⟨b, off, hA, (by
      have := hw b rfl
      by_cases hb : b < w'.heap.size
      · exact hb
      · rw [Array.getElem?_eq_none (by omega)] at this
        simp [hlt] at this), fun i hi j v hv => (World.cell?_of_block (hw b rfl)).trans (hc i hi j v hv)⟩⟩
  · exact .true fun w h => absurd h h0
/-- the call's own state, as what is held when it has ended -/
theorem St.own_blk (S : St X st E a w) {g : Nat} {t : TypeId} {cs : List SV} (hg : look st.m.blks g = some (.blk t cs)) (hC : X.C = noC) : HeldIn (fun k => X.w0.heap.size ≤ k) w fun w => Blk w (E.ρ g) t (SV.vals E cs).toArray :=
  HeldIn.blk (S.mem.blk g t cs hg) (by
    rcases S.sep.base g t cs hg with h | h
    · exact h
    · rw [hC] at h; exact h.elim)
theorem St.letters (S : St X st E a w) {g : Nat} {Φ : (Nat → Value) → World → Prop} (hg : look st.m.blks g = some (.held Φ)) : HeldIn (fun k => X.w0.heap.size ≤ k ∨ X.R k) w (Φ (E.x g)) := (S.sep.held g Φ hg).mono fun _ _ h => h.2
/-- the blocks that it has caught are as they were -/
theorem St.below_c (S : St X st E a w) (hold : ∀ k, X.C k → ∃ g t cs, look st.m.blks g = some (.blk t cs) ∧ E.ρ g = k ∧ Blk X.w0 k t (SV.vals E cs).toArray) : Below X.w0.heap.size X.w0 w :=
  ⟨S.kept.os, S.kept.tape, S.kept.output, S.kept.size, fun k hk => by
    by_cases hC : X.C k
    · obtain ⟨g, t, cs, hg, rfl, hB⟩ := hold k hC
      exact (S.mem.blk g t cs hg).trans hB.symm
    · exact S.kept.block k hk hC⟩
/-- letters, listed -/
def vfun (l : List Value) (i : Nat) : Value := l.getD i (.bool false)
def AllV : List Value → Prop
  | [] => True
  | v :: r => v.oneCell' = true ∧ AllV r
theorem vfun_one : ∀ (l : List Value), AllV l → ∀ i, (vfun l i).oneCell' = true
  | [], _, i => by simp [vfun, Value.oneCell']
  | v :: r, h, 0 => h.1
  | v :: r, h, i + 1 => vfun_one r h.2 i
theorem lit_get {len n : Nat} {vs : List Value} {get : Nat → List Value} (hl : allLt len fun i => get i = (vs.drop (i * n)).take n) : ∀ i, i < len → ∀ j v, (get i)[j]? = some v → vs[0 + (i * n + j)]? = some v := fun i hi j v hv => by
  rw [allLt.get hl i hi, List.getElem?_take] at hv
  split at hv
  · rw [List.getElem?_drop] at hv
    rw [Nat.zero_add]
    exact hv
  · cases hv
theorem St.gr_new (S : St X st E a w) (hC : X.C = noC) {k : Nat} {q : GQ} (hq : look st.m.grs k = some q) : ∀ b, (E.gr k).ownBlock = some b → X.w0.heap.size ≤ b := fun b hb => by
  rcases S.sep.ginj.2 k q b hq hb with h | h
  · exact h
  · rw [hC] at h; exact h.elim
theorem St.gr_one (S : St X st E a w) {k : Nat} {q : GQ} (hq : look st.m.grs k = some q) : (E.gr k).oneCell' = true := by
  obtain ⟨A, c, e⟩ := gr_slice (S.mem.gr k q hq)
  rw [e]; rfl
/-- the cells of a list, one after the other -/
theorem flat_get {α : Type} [Inhabited α] (f : α → List Value) (n : Nat) (hf : ∀ x, (f x).length = n) : ∀ (l : List α) (i : Nat), i < l.length → ∀ j v, (f (l.getD i default))[j]? = some v → (l.flatMap f)[i * n + j]? = some v
  | [], i, h, _, _, _ => absurd h (by simp)
  | x :: r, 0, _, j, v, hv => by
    have hj : j < (f x).length := (List.getElem?_eq_some_iff.1 (show (f x)[j]? = some v from hv)).1
    rw [List.flatMap_cons, List.getElem?_append_left (by omega)]
    simpa using hv
  | x :: r, i + 1, h, j, v, hv => by
    rw [List.flatMap_cons, List.getElem?_append_right (by rw [hf x, Nat.add_mul]; omega), hf x, show (i + 1) * n + j - n = i * n + j by rw [Nat.add_mul]; omega]
    exact flat_get f n hf r i (by simpa using h) j v (by simpa using hv)
theorem flat_len {α : Type} (f : α → List Value) (n : Nat) (hf : ∀ x, (f x).length = n) (l : List α) : (l.flatMap f).length = l.length * n := by
  induction l with
  | nil => simp
  | cons x r ih => rw [List.flatMap_cons, List.length_append, hf x, ih, List.length_cons, Nat.add_mul]; omega
end Go.Proofs.Ytlcccomdijdkaaa
namespace Go.Proofs.Ytlcccomdijdkaaa
open Go.RowKit

variable {P : Program} {X : Ctx} {E : Env} {a : Act} {w : World} {st : SState}

/-- a block that was caught: its number, where it is, its type, its cells -/
structure CB where
  g : Nat
  b : Nat
  t : TypeId
  cs : List SV
def blksOf : List CB → List (Nat × BE)
  | [] => []
  | x :: r => (x.g, .blk x.t x.cs) :: blksOf r
def rhoOf : List CB → Nat → Nat
  | [], _ => 0
  | x :: r, g => bif Nat.beq x.g g then x.b else rhoOf r g
def envC (sls : List (Nat × RS)) (xs : List (Nat × (Nat → Value))) (cbs : List CB) : Env := { envOf sls xs with ρ := rhoOf cbs }
def AllCB (w : World) (E : Env) : List CB → Prop
  | [] => True
  | x :: r => Blk w x.b x.t (SV.vals E x.cs).toArray ∧ AllCB w E r
def NotCB (b : Nat) : List CB → Prop
  | [] => True
  | x :: r => b ≠ x.b ∧ NotCB b r
def ApartCB : List CB → Prop
  | [] => True
  | x :: r => NotCB x.b r ∧ ApartCB r
def AllRC (E : Env) (cbs : List CB) : List (Nat × Q) → Prop
  | [] => True
  | (s, q) :: r => InR (fun b => NotCB b cbs) (E.sl s).A q.len ∧ AllRC E cbs r
def KeepCB (st : SState) : List CB → Prop
  | [] => True
  | x :: r => look st.m.blks x.g = some (.blk x.t x.cs) ∧ KeepCB st r
def bigG : List CB → Bool
  | [] => true
  | x :: r => Nat.ble 1000 x.g && bigG r
theorem blksOf_look : ∀ {cbs : List CB} {g : Nat} {y : BE}, look (blksOf cbs) g = some y → ∃ x ∈ cbs, x.g = g ∧ y = .blk x.t x.cs ∧ rhoOf cbs g = x.b
  | [], g, y, h => by simp [blksOf, look] at h
  | x :: r, g, y, h => by
    rcases look_cases h with ⟨h1, rfl⟩ | ⟨hne, h2⟩
    · exact ⟨x, List.mem_cons_self, h1, rfl, by simp [rhoOf, h1]⟩
    · obtain ⟨z, hz, k1, k2, k3⟩ := blksOf_look h2
      have hb : Nat.beq x.g g = false := by
        cases e : Nat.beq x.g g with
        | false => rfl
        | true => exact absurd (Nat.eq_of_beq_eq_true e) hne
      exact ⟨z, List.mem_cons_of_mem _ hz, k1, k2, by simp only [rhoOf, hb, cond_false, k3]⟩
theorem AllCB.get {E : Env} : ∀ {l : List CB}, AllCB w E l → ∀ x ∈ l, Blk w x.b x.t (SV.vals E x.cs).toArray
  | _ :: _, h, x, hx => by
    rcases List.mem_cons.1 hx with rfl | hx
    · exact h.1
    · exact AllCB.get h.2 x hx
theorem NotCB.get {b : Nat} : ∀ {l : List CB}, NotCB b l → ∀ x ∈ l, b ≠ x.b
  | _ :: _, h, x, hx => by
    rcases List.mem_cons.1 hx with rfl | hx'
    · exact h.1
    · exact NotCB.get h.2 x hx'
theorem ApartCB.get : ∀ {l : List CB}, ApartCB l → ∀ x ∈ l, ∀ y ∈ l, x.b = y.b → x = y
  | z :: r, h, x, hx, y, hy, e => by
    rcases List.mem_cons.1 hx with rfl | hx' <;> rcases List.mem_cons.1 hy with h1 | hy'
    · exact h1.symm
    · exact absurd e (NotCB.get h.1 y hy')
    · subst h1; exact absurd e.symm (NotCB.get h.1 x hx')
    · exact ApartCB.get h.2 x hx' y hy' e
theorem AllRC.get {cbs : List CB} {E : Env} : ∀ {l : List (Nat × Q)}, AllRC E cbs l → ∀ s q, look l s = some q → InR (fun b => NotCB b cbs) (E.sl s).A q.len
  | [], _, s, q, h => by simp [look] at h
  | (k, x) :: r, h, s, q, hq => by
    rcases look_cases hq with ⟨rfl, rfl⟩ | ⟨_, h2⟩
    · exact h.1
    · exact AllRC.get h.2 s q h2
abbrev inCB (cbs : List CB) : Nat → Prop := fun k => ∃ x ∈ cbs, x.b = k

theorem sym_closure {f : FuncId} {fn : Func} {c : Code} {W : World} {T : Ending → World → Prop} (hf : P.funcs[f]? = some fn) (hb : fn.body = some c) (svs : List SV) (rds : List (Nat × Q)) (sls : List (Nat × RS)) (cbs : List CB) (blks : List (Nat × BE)) (hbl : blksOf cbs = blks) (hn : Nat.ble svs.length fn.ntmps = true)
    (hB : AllCB W (envC sls [] cbs) cbs) (hA : ApartCB cbs) (hr : AllRd W (envC sls [] cbs) rds) (hrC : AllRC (envC sls [] cbs) cbs rds)
    (h : ∀ E a w, St ⟨W, inCB cbs, fn.ntmps, [], allR, rhoOf cbs, (envOf sls).sl, (envOf sls).x⟩ ⟨argSlots 0 svs, ⟨blks, rds, []⟩⟩ E a w → c.wp P (bodyPost P fn T) a w) : Calls P f (SV.vals (envC sls [] cbs) svs).toArray W T := by
  subst hbl
  refine sym_enter hf hb svs rds (blksOf cbs) (envC sls [] cbs) (inCB cbs) allR (rhoOf cbs) (fun _ _ => rfl) hn (envOf_one (xs := []) (sls := sls) trivial) (fun g t cs hx => ?_) (fun g g' t t' cs cs' hx hy e => ?_) (fun g Φ hx => ?_) hr (fun s q b off hq hl hA' => ⟨trivial, fun g t cs hx e => ?_⟩) (fun a w S => h _ a w S)
  · obtain ⟨x, hx1, _, hx2, hx3⟩ := blksOf_look hx
    simp only [BE.blk.injEq] at hx2
    obtain ⟨rfl, rfl⟩ := hx2
    have := hB.get x hx1
    rw [show (envC sls [] cbs).ρ g = x.b from hx3]
    exact ⟨this, x, hx1, rfl⟩
  · obtain ⟨x, hx1, rfl, _, hx3⟩ := blksOf_look hx
    obtain ⟨y, hy1, rfl, _, hy3⟩ := blksOf_look hy
    have e' : x.b = y.b := by rw [← hx3, ← hy3]; exact e
    rw [hA.get x hx1 y hy1 e']
  · obtain ⟨x, _, _, hx2, _⟩ := blksOf_look hx
    cases hx2
  · obtain ⟨x, hx1, _, _, hx3⟩ := blksOf_look hx
    exact (hrC.get s q hq b off hl hA').get x hx1 (by rw [← e]; exact hx3)
/-- the caught blocks are as they were, if their cells are -/
theorem KeepCB.get : ∀ {l : List CB}, KeepCB st l → ∀ x ∈ l, look st.m.blks x.g = some (.blk x.t x.cs)
  | _ :: _, h, x, hx => by
    rcases List.mem_cons.1 hx with rfl | hx
    · exact h.1
    · exact KeepCB.get h.2 x hx
theorem bigG_ok : ∀ {l : List CB}, bigG l = true → ∀ x ∈ l, 1000 ≤ x.g
  | _ :: _, h, x, hx => by
    simp only [bigG, Bool.and_eq_true] at h
    rcases List.mem_cons.1 hx with rfl | hx
    · exact Nat.le_of_ble_eq_true h.1
    · exact bigG_ok h.2 x hx
theorem rhoOf_mem : ∀ {l : List CB}, ApartCB l → (l.map CB.g).Nodup → ∀ x ∈ l, rhoOf l x.g = x.b
  | y :: r, hA, hn, x, hx => by
    simp only [List.map_cons, List.nodup_cons] at hn
    rcases List.mem_cons.1 hx with rfl | hx'
    · simp [rhoOf]
    · have hne : y.g ≠ x.g := fun e => hn.1 (e ▸ List.mem_map_of_mem hx')
      have hb : Nat.beq y.g x.g = false := by
        cases e : Nat.beq y.g x.g with
        | false => rfl
        | true => exact absurd (Nat.eq_of_beq_eq_true e) hne
      simp only [rhoOf, hb, cond_false]
      exact rhoOf_mem hA.2 hn.2 x hx'
/-- cells that hang on nothing but the arguments' slices -/
def plainC : List SV → Bool
  | [] => true
  | .v _ :: r => plainC r
  | .sl s :: r => Nat.blt s 1000 && plainC r
  | .own g _ :: r => Nat.ble 1000 g && plainC r
  | .fn _ [.own g _] :: r => Nat.ble 1000 g && plainC r
  | .fn _ [.own g _, .own g' _] :: r => Nat.ble 1000 g && Nat.ble 1000 g' && plainC r
  | _ :: _ => false
def plainCB : List CB → Bool
  | [] => true
  | x :: r => plainC x.cs && plainCB r
theorem plainCB_ok : ∀ {l : List CB}, plainCB l = true → ∀ x ∈ l, plainC x.cs = true
  | _ :: _, h, x, hx => by
    simp only [plainCB, Bool.and_eq_true] at h
    rcases List.mem_cons.1 hx with rfl | hx'
    · exact h.1
    · exact plainCB_ok h.2 x hx'
theorem plain_vals {E' : Env} (h : ∀ s, s < 1000 → E.sl s = E'.sl s) (hρ : ∀ g, 1000 ≤ g → E.ρ g = E'.ρ g) : ∀ cs : List SV, plainC cs = true → SV.vals E cs = SV.vals E' cs
  | [], _ => by simp [SV.vals]
  | .v x :: r, hp => by simp only [SV.vals, SV.val, plain_vals h hρ r hp]
  | .sl s :: r, hp => by
    simp only [plainC, Bool.and_eq_true] at hp
    simp only [SV.vals, SV.val, plain_vals h hρ r hp.2, h s (Nat.lt_of_succ_le (Nat.le_of_ble_eq_true hp.1))]
  | .own g off :: r, hp => by
    simp only [plainC, Bool.and_eq_true] at hp
    simp only [SV.vals, SV.val, plain_vals h hρ r hp.2, hρ g (Nat.le_of_ble_eq_true hp.1)]
  | .fn f [.own g off] :: r, hp => by
    simp only [plainC, Bool.and_eq_true] at hp
    simp only [SV.vals, SV.val, plain_vals h hρ r hp.2, hρ g (Nat.le_of_ble_eq_true hp.1)]
  | .fn f [.own g off, .own g' off'] :: r, hp => by
    simp only [plainC, Bool.and_eq_true] at hp
    simp only [SV.vals, SV.val, plain_vals h hρ r hp.2, hρ g (Nat.le_of_ble_eq_true hp.1.1), hρ g' (Nat.le_of_ble_eq_true hp.1.2)]
theorem St.below_cb {cbs : List CB} {rds0 : List (Nat × RS)} (S : St X st E a w) (hC : X.C = inCB cbs) (hρ : X.ρ0 = rhoOf cbs) (hs0 : X.sl0 = (envOf rds0).sl) (hk : KeepCB st cbs) (hg : bigG cbs = true) (hA : ApartCB cbs) (hn : (cbs.map CB.g).Nodup) (hB : AllCB X.w0 (envC rds0 [] cbs) cbs) (hsl : plainCB cbs = true) : Below X.w0.heap.size X.w0 w :=
  S.below_c fun k hk' => by
    rw [hC] at hk'
    obtain ⟨x, hx, rfl⟩ := hk'
    refine ⟨x.g, x.t, x.cs, hk.get x hx, (S.pin.1 x.g (bigG_ok hg x hx)).trans (by rw [hρ]; exact rhoOf_mem hA hn x hx), ?_⟩
    rw [plain_vals (E' := envC rds0 [] cbs) (fun s hs => (S.pin.2.1 s hs).trans (by rw [hs0]; rfl)) (fun g hg => (S.pin.1 g hg).trans (by rw [hρ]; rfl)) x.cs (plainCB_ok hsl x hx)]
    exact hB.get x hx
end Go.Proofs.Ytlcccomdijdkaaa
namespace Go.Proofs.Ytlcccomdijdkaaa
open Go.RowKit

variable {P : Program} {X : Ctx} {E : Env} {a : Act} {w : World} {st : SState} {Po : Exit → Act → World → Prop} {K : Act → World → Prop}

theorem out_then_panic {ch : List PanicEntry} (h : Po (.panic ch) a w) : Exit.then K Po (.panic ch) a w := h
theorem out_block_panic {i : Nat} {ch : List PanicEntry} (h : Po (.panic ch) a w) : Exit.inBlock i Po (.panic ch) a w := h
/-- an interface is made of a constant, and thrown -/
def dieB (t d : Nat) (k : IntKind) (n : Int) (ops : List Oper) : Bool := match ops with
  | [o1, o2] => (match o1.op, o1.dst, o1.guard with
    | .makeInterface t' (.const (.int k' n')), some d', none => Nat.beq t t' && Nat.beq d d' && (decide (k = k') && decide (n = n'))
    | _, _, _ => false) && (match o2.op, o2.guard with
    | .panic (.tmp d'), none => Nat.beq d d'
    | _, _ => false)
  | _ => false
theorem sym_die {id : Nat} {ops : List Oper} (t d : Nat) (k : IntKind) (n : Int) (hops : dieB t d k n ops = true) (ht : P.concrete t = true) (hd : Nat.blt d X.n = true) (S : St X st E a w) (h : ∀ a', a'.defers = a.defers → Po (.panic [{ v := .iface t (.int k n), recovered := false }]) a' w) : (Code.region id ops.toArray false).wp P Po a w := by
  unfold dieB at hops
  split at hops
  · rename_i o1 o2
    simp only [Bool.and_eq_true] at hops
    obtain ⟨h1, h2⟩ := hops
    split at h1
    · rename_i t' k' n' d' e1 e2 e3
      simp only [Bool.and_eq_true, Nat.beq_eq, decide_eq_true_eq] at h1
      obtain ⟨⟨rfl, rfl⟩, rfl, rfl⟩ := h1
      split at h2
      · rename_i d'' e4 e5
        simp only [Nat.beq_eq] at h2
        subst h2
        refine wp_region_lit (wpList_step fun K hK => ?_)
        have hw1 : ∀ y, Region.wanted o1 y = true := fun y => by simp [Region.wanted, e3]
        have hw2 : ∀ y, Region.wanted o2 y = true := fun y => by simp [Region.wanted, e5]
        rw [if_pos (hw1 _)]
        have hx1 : (execOp a.eval o1).run P w = .ok (.value (.iface t (.int k n))) w := by
          obtain ⟨dst, op, ty, pos, aft, gd⟩ := o1
          simp only at e1
          subst e1
          simp [execOp, run_makeInterface w t _ ht, Sem.run_bind, Act.eval, Result.andThen, Sem.run_pure]
        unfold Oper.wp
        rw [hx1]
        simp only [Oper.upon]
        refine hK _ _ ?_
        refine wpList_step fun K2 hK2 => ?_
        rw [if_pos (hw2 _)]
        have hev : (a.put o1.dst (.iface t (.int k n))).eval (.tmp d) = .iface t (.int k n) := by
          rw [e2]
          simp [Act.put, Act.eval, S.size, Nat.lt_of_succ_le (Nat.le_of_ble_eq_true hd)]
        have hx2 : (execOp (a.put o1.dst (.iface t (.int k n))).eval o2).run P w = .halt (.panic (.iface t (.int k n))) w := by
          obtain ⟨dst, op, ty, pos, aft, gd⟩ := o2
          simp only at e4
          subst e4
          simp only [execOp, hev]
          simp [Instr.panic, go_sem]
        rw [Oper.wp, hx2]
        simp only [Oper.upon]
        refine h _ ?_
        rw [e2]
        rfl
      · cases h2
    · cases h1
  · cases hops

theorem sym_closure_h {f : FuncId} {fn : Func} {c : Code} {W : World} {T : Ending → World → Prop} (hf : P.funcs[f]? = some fn) (hb : fn.body = some c) (svs : List SV) (rds : List (Nat × Q)) (sls : List (Nat × RS)) (xs : List (Nat × (Nat → Value))) (cbs : List CB) (hds blks : List (Nat × BE)) (hbl : blksOf cbs ++ hds = blks) (hn : Nat.ble svs.length fn.ntmps = true)
    (hone : AllOne xs) (hB : AllCB W (envC sls xs cbs) cbs) (hA : ApartCB cbs) (hr : AllRd W (envC sls xs cbs) rds) (hrC : AllRC (envC sls xs cbs) cbs rds) (hh : AllHeld (fun k => NotCB k cbs) W (envC sls xs cbs) hds)
    (h : ∀ E a w, St ⟨W, inCB cbs, fn.ntmps, [], allR, rhoOf cbs, (envOf sls).sl, (envOf sls xs).x⟩ ⟨argSlots 0 svs, ⟨blks, rds, []⟩⟩ E a w → c.wp P (bodyPost P fn T) a w) : Calls P f (SV.vals (envC sls xs cbs) svs).toArray W T := by
  subst hbl
  have hblk : ∀ {g t cs}, look (blksOf cbs ++ hds) g = some (.blk t cs) → ∃ x ∈ cbs, x.g = g ∧ .blk t cs = BE.blk x.t x.cs ∧ rhoOf cbs g = x.b := fun hx => by
    rcases look_append _ _ _ _ hx with h1 | h1
    · exact blksOf_look h1
    · obtain ⟨Φ, e, _⟩ := hh.get _ _ h1
      cases e
  refine sym_enter hf hb svs rds (blksOf cbs ++ hds) (envC sls xs cbs) (inCB cbs) allR (rhoOf cbs) (fun _ _ => rfl) hn (envOf_one (sls := sls) hone) (fun g t cs hx => ?_) (fun g g' t t' cs cs' hx hy e => ?_) (fun g Φ hx => ?_) hr (fun s q b off hq hl hA' => ⟨trivial, fun g t cs hx e => ?_⟩) (fun a w S => h _ a w S)
  · obtain ⟨x, hx1, _, hx2, hx3⟩ := hblk hx
    simp only [BE.blk.injEq] at hx2
    obtain ⟨rfl, rfl⟩ := hx2
    have := hB.get x hx1
    rw [show (envC sls xs cbs).ρ g = x.b from hx3]
    exact ⟨this, x, hx1, rfl⟩
  · obtain ⟨x, hx1, rfl, _, hx3⟩ := hblk hx
    obtain ⟨y, hy1, rfl, _, hy3⟩ := hblk hy
    have e' : x.b = y.b := by rw [← hx3, ← hy3]; exact e
    rw [hA.get x hx1 y hy1 e']
  · rcases look_append _ _ _ _ hx with h1 | h1
    · obtain ⟨x, _, _, hx2, _⟩ := blksOf_look h1
      cases hx2
    · obtain ⟨Φ', e, h2⟩ := hh.get _ _ h1
      cases e
      exact h2.mono fun k _ hk => ⟨trivial, fun g' t cs hx' e => by
        obtain ⟨x, hx1, _, _, hx3⟩ := hblk hx'
        exact hk.get x hx1 (by rw [← e]; exact hx3)⟩
  · obtain ⟨x, hx1, _, _, hx3⟩ := hblk hx
    exact (hrC.get s q hq b off hl hA').get x hx1 (by rw [← e]; exact hx3)
end Go.Proofs.Ytlcccomdijdkaaa
namespace Go.Proofs.Ytlcccomdijdkaaa
open Go.RowKit

theorem Kept.putObj {C : Nat → Prop} {a b : World} (h : Kept C a b) {r : Nat} (hp : C r) (o : Obj) : Kept C a (b.putObj r o) :=
  h.trans ⟨rfl, rfl, rfl, by simp [World.putObj], fun k _ hn => World.putObj_heap_other (fun e => hn (by rw [e]; exact hp))⟩
theorem Kept.widen {C C' : Nat → Prop} {a b : World} (h : Kept C a b) (hc : ∀ k, C k → C' k) : Kept C' a b := h.mono fun k _ => hc k

/-- what the caller says of its own blocks S (and of those below B) stays true while these stay -/
def Rest {β : Type} (B : Nat) (J : β → (Nat → Prop) → World → Prop) : Prop :=
  (∀ s S a b, J s S a → Kept (fun k => ¬ S k ∧ B ≤ k) a b → J s S b) ∧ (∀ s S a, J s S a → ∀ k, S k → k < a.heap.size)
def RestM {β : Type} (M : Nat → Prop) (B : Nat) (J : β → (Nat → Prop) → World → Prop) : Prop :=
  (∀ s S a b, J s S a → Kept (fun k => ¬ S k ∧ (B ≤ k ∨ M k)) a b → J s S b) ∧ (∀ s S a, J s S a → ∀ k, S k → k < a.heap.size)
theorem RestM.rest {β : Type} {M : Nat → Prop} {B : Nat} {J : β → (Nat → Prop) → World → Prop} (h : RestM M B J) : Rest B J := ⟨fun s S a b hj hk => h.1 s S a b hj (hk.widen fun _ h => ⟨h.1, .inl h.2⟩), h.2⟩
/-- the caller's own blocks behind a round: those of before, and new ones -/
def Grows (S : Nat → Prop) (a : World) (S' : Nat → Prop) : Prop := ∀ k, S' k → S k ∨ a.heap.size ≤ k

/-- AN ITERATOR's CONTRACT: called with a yield whose rounds turn the caller's own blocks alone (none of which it reads: D), it hands on xs, one after the other, until a round says no. -/
def SeqT {α : Type} (F : Fence) (P : Program) (g : Nat) (lb : Array Value) (encs : α → Array Value) (xs : List α) (die : Option (List PanicEntry)) (M D : Nat → Prop) (Fin : World → Prop) (w : World) : Prop :=
  ∀ (n l : Nat) (J Jx : List α → (Nat → Prop) → World → Prop) (W : World) (S0 : Nat → Prop), Below w.heap.size w W → (∀ k, S0 k → ¬ D k ∧ ¬ M k) → RestM M W.heap.size J → RestM M W.heap.size Jx →
    (∀ pre x rest W1 S, xs = pre ++ x :: rest → J pre S W1 → Grows S0 W S → W.heap.size ≤ W1.heap.size → ∀ m, YieldAt F m P l (encs x) W1 fun e W' =>
      ∃ S', Grows S W1 S' ∧ Kept S W1 W' ∧ ((e = .returned (.bool true) ∧ J (pre ++ [x]) S' W') ∨ (e = .returned (.bool false) ∧ Jx (pre ++ [x]) S' W'))) →
    J [] S0 W →
    CallsIn F n P g (#[.func (.yield l) #[] #[]] ++ lb) W fun e W' => ∃ S, Grows S0 W S ∧ W.heap.size ≤ W'.heap.size ∧
      ((J xs S W' ∧ (match die with | none => (∃ v, e = .returned v) ∧ Fin W' | some ch => e = .panicked ch)) ∨ ((∃ v, e = .returned v) ∧ ∃ pre, pre <+: xs ∧ Jx pre S W'))

/-- HOW THE BODY OF A ROUND MAY BE LEFT -/
def endPostO {α : Type} (S : Nat → Prop) (I : List α → (Nat → Prop) → World → Prop) (Ix : Code → List α → (Nat → Prop) → World → Prop) (xs : List α) (W : World) : Exit → Act → World → Prop
  | .normal, _, W' => ∃ S', Grows S W S' ∧ Kept S W W' ∧ I xs S' W'
  | .ret, _, W' => ∃ S', Grows S W S' ∧ Kept S W W' ∧ Ix .ret xs S' W'
  | .exit id, _, W' => ∃ S', Grows S W S' ∧ Kept S W W' ∧ Ix (.exit id) xs S' W'
  | .goto t, _, W' => ∃ S', Grows S W S' ∧ Kept S W W' ∧ Ix (.goto t) xs S' W'
  | .panic _, _, _ => False
  | .outgrown, _, _ => False

variable {F : Fence} {n : Nat} {P : Program}

/-- ONE ROUND, whichever law: the record lies at l, and is none of the caller's own. -/
theorem roundO_of {α : Type} {ps : Array Tmp} {assign body : Code} {tmps : Array Value} {l B : Nat} {rec : LoopState → Option Code → Loop} {fn : FuncId} (hfn : F.fn fn)
    (hr1 : ∀ s p, (rec s p).fn = fn ∧ (rec s p).tmps = tmps ∧ (rec s p).params = ps ∧ (rec s p).assign = assign ∧ (rec s p).body = body) (hr2 : ∀ s p s', { rec s p with state := s' } = rec s' p) (hr3 : ∀ s p s' p', { rec s p with state := s', pending := p' } = rec s' p') (hr4 : (rec .ready none).state = .ready)
    {enc : Array Value} (hps : enc.size = ps.size) {S : Nat → Prop} {I : List α → (Nat → Prop) → World → Prop} {Ix : Code → List α → (Nat → Prop) → World → Prop} (hI : Rest B I) (hIx : ∀ c, Rest B (Ix c)) (hS : ¬ S l) (hB : B ≤ l)
    {pre : List α} {x : α} {W : World} (hi : I pre S W) (hl : W.heap[l]? = some (.loop (rec .ready none))) {m : Nat}
    (hround : ∀ K : Act → World → Prop, (∀ a₁ W₁, Below W.heap.size W W₁ → (∀ W₂, W₂.heap.size = W₁.heap.size → Kept (fun k => k = l) W₁ W₂ → (∃ r, W₂.heap[l]? = some (.loop r)) → I pre S W₂ → body.wpIn (F.inRound l) m P (endPostO S I Ix (pre ++ [x]) W₂) a₁ W₂) → K a₁ W₁) →
      assign.wpIn (F.inRound l) m P (Exit.then K (fun _ _ _ => False)) { tmps := (ps.zip enc).foldl (fun t (p, v) => t.setIfInBounds p v) tmps, defers := [] } W) :
    YieldAt F m P l enc W fun e W' => ∃ S', Grows S W S' ∧ ¬ S' l ∧ Kept (fun k => S k ∨ k = l) W W' ∧
      ((e = .returned (.bool true) ∧ I (pre ++ [x]) S' W' ∧ W'.heap[l]? = some (.loop (rec .ready none))) ∨ (e = .returned (.bool false) ∧ ∃ c, Ix c (pre ++ [x]) S' W' ∧ W'.heap[l]? = some (.loop (rec .done (some c))))) := by
  have hlt : l < W.heap.size := (Array.getElem?_eq_some_iff.1 hl).1
  have hy := run_yield (P := P) (args := enc) hl (by rw [(hr1 _ _).2.2.1]; exact hps)
  rw [(hr1 _ _).1, (hr1 _ _).2.1, (hr1 _ _).2.2.1, (hr1 _ _).2.2.2.1, (hr1 _ _).2.2.2.2] at hy
  refine ⟨fn, _, assign, body, hy, roundIn_of_wpIn hfn (hround _ ?_)⟩
  clear hy
  intro a₁ W₁ hb1 hbody
  have hl1 : W₁.heap[l]? = some (.loop (rec .ready none)) := (hb1.block l hlt).trans hl
  have hlt1 : l < W₁.heap.size := (Array.getElem?_eq_some_iff.1 hl1).1
  have hi1 : I pre S W₁ := hI.1 _ _ _ _ hi (Kept.of_below hb1)
  refine ⟨_, run_beginRound hl1 hr4, ?_⟩
  rw [hr2]
  have hl2 : (W₁.putObj l (.loop (rec .busy none))).heap[l]? = some (.loop (rec .busy none)) := World.putObj_heap_same hlt1
  have hk2 : Kept (fun k => k = l) W₁ (W₁.putObj l (.loop (rec .busy none))) := (Kept.refl (fun k => k = l) W₁).putObj (r := l) rfl _
  have hi2 : I pre S (W₁.putObj l (.loop (rec .busy none))) := hI.1 _ _ _ _ hi1 (hk2.widen fun k hk => by subst hk; exact ⟨hS, hB⟩)
  refine wpIn_mono (hbody _ (by simp [World.putObj]) hk2 ⟨_, hl2⟩ hi2) ?_
  have hk02 : Kept (fun k => S k ∨ k = l) W (W₁.putObj l (.loop (rec .busy none))) := (Kept.of_below hb1).trans (hk2.widen fun k h => .inr h)
  have hz2 : W.heap.size ≤ (W₁.putObj l (.loop (rec .busy none))).heap.size := hk02.size
  have fin : ∀ (jump : Option Code) (W3 : World) (S' : Nat → Prop), Grows S (W₁.putObj l (.loop (rec .busy none))) S' → Kept S (W₁.putObj l (.loop (rec .busy none))) W3 →
      (Instr.endRound l jump).run P W3 = .ok (.bool jump.isNone) (W3.putObj l (.loop (rec (if jump.isNone then .ready else .done) jump))) ∧
      (W3.putObj l (.loop (rec (if jump.isNone then .ready else .done) jump))).heap[l]? = some (.loop (rec (if jump.isNone then .ready else .done) jump)) ∧
      Kept (fun k => S k ∨ k = l) W (W3.putObj l (.loop (rec (if jump.isNone then .ready else .done) jump))) ∧ Grows S W S' ∧ ¬ S' l ∧ Kept (fun k => ¬ S' k ∧ B ≤ k) W3 (W3.putObj l (.loop (rec (if jump.isNone then .ready else .done) jump))) := fun jump W3 S' hg hk3 => by
    have hl3 : W3.heap[l]? = some (.loop (rec .busy none)) := (hk3.block l (Array.getElem?_eq_some_iff.1 hl2).1 hS).trans hl2
    have := run_endRound (P := P) jump hl3
    rw [hr3] at this
    have hS' : ¬ S' l := fun e => by
      rcases hg l e with h | h
      · exact hS h
      · have := (Array.getElem?_eq_some_iff.1 hl2).1; omega
    exact ⟨this, World.putObj_heap_same (Array.getElem?_eq_some_iff.1 hl3).1, (hk02.trans (hk3.widen fun k h => .inl h)).putObj (.inr rfl) _, fun k hk => (hg k hk).imp id (fun h => by omega), hS',
      (Kept.refl _ _).putObj (r := l) ⟨hS', hB⟩ _⟩
  rintro e a3 W3 hp
  cases e with
  | normal =>
    obtain ⟨S', hg, hk3, hi3⟩ := hp
    obtain ⟨hr, hl4, hk4, hg', hS', hkk⟩ := fin none W3 S' hg hk3
    exact ⟨_, _, hr, S', hg', hS', hk4, .inl ⟨rfl, hI.1 _ _ _ _ hi3 hkk, hl4⟩⟩
  | ret =>
    obtain ⟨S', hg, hk3, hi3⟩ := hp
    obtain ⟨hr, hl4, hk4, hg', hS', hkk⟩ := fin (some .ret) W3 S' hg hk3
    exact ⟨_, _, hr, S', hg', hS', hk4, .inr ⟨rfl, .ret, (hIx _).1 _ _ _ _ hi3 hkk, hl4⟩⟩
  | exit id =>
    obtain ⟨S', hg, hk3, hi3⟩ := hp
    obtain ⟨hr, hl4, hk4, hg', hS', hkk⟩ := fin (some (.exit id)) W3 S' hg hk3
    exact ⟨_, _, hr, S', hg', hS', hk4, .inr ⟨rfl, .exit id, (hIx _).1 _ _ _ _ hi3 hkk, hl4⟩⟩
  | goto t =>
    obtain ⟨S', hg, hk3, hi3⟩ := hp
    obtain ⟨hr, hl4, hk4, hg', hS', hkk⟩ := fin (some (.goto t)) W3 S' hg hk3
    exact ⟨_, _, hr, S', hg', hS', hk4, .inr ⟨rfl, .goto t, (hIx _).1 _ _ _ _ hi3 hkk, hl4⟩⟩
  | panic ch => exact hp.elim
  | outgrown => exact hp.elim

/-- A RANGE OVER AN ITERATOR, outside of rounds. -/
theorem rangeT_outer {α : Type} {g : Operand} {ps : Array Tmp} {assign body : Code} {Q : Exit → Act → World → Prop} {a : Act} {w : World}
    (hro : F.round = none) (hd : F.depth = none) {gf : Nat} {lb : Array Value} (hg : a.eval g = .func (.func gf) #[] lb) (hFg : F.fn gf) (eg : ∀ args w, (callFunc gf args).run P w = .ok (.enter gf args) w)
    {encs : α → Array Value} {xs : List α} {die : Option (List PanicEntry)} {M D : Nat → Prop} {Fin : World → Prop} {w0 : World} (hseq : SeqT F P gf lb encs xs die M D Fin w0) (hb0 : Below w0.heap.size w0 w) (hps : ∀ x, (encs x).size = ps.size)
    (S0 : Nat → Prop) (hS : ∀ k, S0 k → k < w.heap.size ∧ ¬ D k ∧ ¬ M k) (hD : ∀ k, D k → k < w.heap.size) (hM : ∀ k, M k → k < w.heap.size) (hfin : ∀ a b, Fin a → Kept (fun k => w.heap.size ≤ k) a b → Fin b)
    (I : List α → (Nat → Prop) → World → Prop) (Ix : Code → List α → (Nat → Prop) → World → Prop) (hI : RestM M w.heap.size I) (hIx : ∀ c, RestM M w.heap.size (Ix c)) (h0 : I [] S0 w)
    (hround : ∀ (m l : Nat) (pre : List α) (x : α) (rest : List α) (W : World) (S : Nat → Prop) (K : Act → World → Prop), w.heap.size ≤ l → l < W.heap.size → ¬ S l → xs = pre ++ x :: rest → I pre S W → Grows S0 w S →
      (∀ a₁ W₁, Below W.heap.size W W₁ → (∀ W₂, W₂.heap.size = W₁.heap.size → Kept (fun k => k = l) W₁ W₂ → (∃ r, W₂.heap[l]? = some (.loop r)) → I pre S W₂ → body.wpIn (F.inRound l) m P (endPostO S I Ix (pre ++ [x]) W₂) a₁ W₂) → K a₁ W₁) →
      assign.wpIn (F.inRound l) m P (Exit.then K (fun _ _ _ => False)) { tmps := (ps.zip (encs x)).foldl (fun t (p, v) => t.setIfInBounds p v) a.tmps, defers := [] } W)
    (hdone : ∀ (D : Nat) (S : Nat → Prop) (W : World), w.heap.size ≤ D → D < W.heap.size → ¬ S D → I xs S W → Grows S0 w S → die = none → Fin W → W.heap[D]? = some (.deferred (some [])) → Q .normal { a with defers := { target := .collected D, args := #[] } :: a.defers } W)
    (hstop : ∀ (D : Nat) (c : Code) (pre : List α) (S : Nat → Prop) (W : World), w.heap.size ≤ D → D < W.heap.size → ¬ S D → pre <+: xs → Ix c pre S W → Grows S0 w S → W.heap[D]? = some (.deferred (some [])) → c.wpIn F n P Q { a with defers := { target := .collected D, args := #[] } :: a.defers } W)
    (hdie : ∀ (ch : List PanicEntry) (D : Nat) (S : Nat → Prop) (W : World), die = some ch → w.heap.size ≤ D → D < W.heap.size → ¬ S D → I xs S W → Grows S0 w S → W.heap[D]? = some (.deferred (some [])) → Q (.panic ch) { a with defers := { target := .collected D, args := #[] } :: a.defers } W) :
    (Code.rangeFunc g ps assign body).wpIn F n P Q a w := by
  refine wpIn_rangeFunc ?_
  intro fn hfn
  rw [hro]
  obtain ⟨rec, hrec⟩ : ∃ rec : LoopState → Option Code → Loop, rec = fun st pe => { state := st, pending := pe, fn, tmps := a.tmps, params := ps, assign, body, defers := w.heap.size } := ⟨_, rfl⟩
  obtain ⟨W1, hW1⟩ : ∃ W1, (w.alloc (.deferred (some []))).alloc (.loop (rec .ready none)) = W1 := ⟨_, rfl⟩
  have hz1 : W1.heap.size = w.heap.size + 2 := by rw [← hW1]; simp
  have hL1 : W1.heap[w.heap.size + 1]? = some (.loop (rec .ready none)) := by
    rw [← hW1]; have := World.alloc_heap_new (w.alloc (.deferred (some []))) (.loop (rec .ready none)); rwa [World.size_alloc] at this
  have hK1 : W1.heap[w.heap.size]? = some (.deferred (some [])) := by
    rw [← hW1]; exact (Below.heap_alloc _ _ _ (by simp)).trans (World.alloc_heap_new w _)
  have hbw : Below w.heap.size w W1 := by rw [← hW1]; exact ((Below.refl _ w).alloc (Nat.le_refl _) _).alloc (by simp) _
  have hI1 : I [] S0 W1 := hI.1 _ _ _ _ h0 (Kept.of_below hbw)
  have hb1 : Below w0.heap.size w0 W1 := hb0.trans (hbw.mono hb0.size)
  -- the caller's own, with the record and the block for deferred calls
  obtain ⟨O, hO⟩ : ∃ O : (Nat → Prop) → Nat → Prop, O = fun S k => S k ∨ k = w.heap.size + 1 ∨ k = w.heap.size := ⟨_, rfl⟩
  have hkeep : ∀ S a b, (¬ S (w.heap.size + 1) ∧ ¬ S w.heap.size) → Kept (fun k => ¬ O S k ∧ (W1.heap.size ≤ k ∨ M k)) a b → Kept (fun k => ¬ S k ∧ (w.heap.size ≤ k ∨ M k)) a b ∧ (∀ k, (k = w.heap.size + 1 ∨ k = w.heap.size) → k < a.heap.size → b.heap[k]? = a.heap[k]?) := fun S a b hn hk => by
    subst hO
    exact ⟨hk.widen fun k h => ⟨fun e => h.1 (.inl e), h.2.imp (fun h => by omega) id⟩, fun k hk' hlt => hk.block k hlt (fun e => e.1 (.inr hk'))⟩
  refine ⟨w.heap.size + 1, [{ target := .collected w.heap.size, args := #[] }], W1, { target := .fn (.func gf) lb, args := #[.func (.yield (w.heap.size + 1)) #[] #[]] }, W1, gf,
    #[.func (.yield (w.heap.size + 1)) #[] #[]] ++ lb, W1, ?_, ?_, ?_, ?_, fun h => (by rw [hd] at h; cases h), ?_⟩
  · rw [← hW1, hrec]; exact run_enterLoop_outer _ _ _ _ _
  · simp only [resolve, hg]
    simp [go_sem]
  · intro f' hf'; simp [Target.leads] at hf'; subst hf'; exact hFg
  · simp [invoke, go_sem, eg]
  · refine (hseq (n - 1) (w.heap.size + 1)
      (fun pre T W => ∃ S, T = O S ∧ (¬ S (w.heap.size + 1) ∧ ¬ S w.heap.size) ∧ Grows S0 w S ∧ I pre S W ∧ W.heap[w.heap.size + 1]? = some (.loop (rec .ready none)) ∧ W.heap[w.heap.size]? = some (.deferred (some [])))
      (fun pre T W => ∃ S c, T = O S ∧ (¬ S (w.heap.size + 1) ∧ ¬ S w.heap.size) ∧ Grows S0 w S ∧ Ix c pre S W ∧ W.heap[w.heap.size + 1]? = some (.loop (rec .done (some c))) ∧ W.heap[w.heap.size]? = some (.deferred (some [])))
      W1 (O S0) hb1 ?_ ?_ ?_ ?_ ⟨S0, rfl, ⟨fun h => by have := (hS _ h).1; omega, fun h => by have := (hS _ h).1; omega⟩, fun k h => .inl h, hI1, hL1, hK1⟩).mono ?_
    · intro k hk
      subst hO
      rcases hk with h | h | h
      · exact (hS k h).2
      · exact ⟨fun h2 => by have := hD k h2; omega, fun h2 => by have := hM k h2; omega⟩
      · exact ⟨fun h2 => by have := hD k h2; omega, fun h2 => by have := hM k h2; omega⟩
    · refine ⟨?_, ?_⟩
      · rintro s _ a b ⟨S, rfl, hn, hg, hi, hl, hk⟩ hkk
        obtain ⟨k1, k2⟩ := hkeep S a b hn hkk
        exact ⟨S, rfl, hn, hg, hI.1 _ _ _ _ hi k1, (k2 _ (.inl rfl) (Array.getElem?_eq_some_iff.1 hl).1).trans hl, (k2 _ (.inr rfl) (Array.getElem?_eq_some_iff.1 hk).1).trans hk⟩
      · rintro s _ a ⟨S, rfl, hn, hg, hi, hl, hk⟩ k hk'
        subst hO
        rcases hk' with h | rfl | rfl
        · exact hI.2 _ _ _ hi k h
        · exact (Array.getElem?_eq_some_iff.1 hl).1
        · exact (Array.getElem?_eq_some_iff.1 hk).1
    · refine ⟨?_, ?_⟩
      · rintro s _ a b ⟨S, c, rfl, hn, hg, hi, hl, hk⟩ hkk
        obtain ⟨k1, k2⟩ := hkeep S a b hn hkk
        exact ⟨S, c, rfl, hn, hg, (hIx c).1 _ _ _ _ hi k1, (k2 _ (.inl rfl) (Array.getElem?_eq_some_iff.1 hl).1).trans hl, (k2 _ (.inr rfl) (Array.getElem?_eq_some_iff.1 hk).1).trans hk⟩
      · rintro s _ a ⟨S, c, rfl, hn, hg, hi, hl, hk⟩ k hk'
        subst hO
        rcases hk' with h | rfl | rfl
        · exact (hIx c).2 _ _ _ hi k h
        · exact (Array.getElem?_eq_some_iff.1 hl).1
        · exact (Array.getElem?_eq_some_iff.1 hk).1
    · rintro pre x rest W _ hx ⟨S, rfl, hn, hg, hi, hl, hk⟩ _ hW m
      obtain ⟨fn', tm, asg, bo, hy, hR⟩ := roundO_of (P := P) (m := m) (B := w.heap.size) (S := S) (I := I) (Ix := Ix) (rec := rec) (tmps := a.tmps) (assign := assign) (body := body) (ps := ps) (l := w.heap.size + 1) (x := x) (pre := pre) (enc := encs x) hfn
        (fun s p => by subst hrec; exact ⟨rfl, rfl, rfl, rfl, rfl⟩) (fun s p s' => by subst hrec; rfl) (fun s p s' p' => by subst hrec; rfl) (by subst hrec; rfl) (hps x) hI.rest (fun c => (hIx c).rest) hn.1 (by omega) hi hl
        (fun K hK => hround m _ pre x rest W S K (by omega) (by omega) hn.1 hx hi hg hK)
      refine ⟨fn', tm, asg, bo, hy, hR.mono ?_⟩
      rintro e W' ⟨S', hg', hS', hkept, h⟩
      have hlD : w.heap.size < W.heap.size := (Array.getElem?_eq_some_iff.1 hk).1
      have hk' : W'.heap[w.heap.size]? = some (.deferred (some [])) := (hkept.block _ hlD (fun e => by rcases e with e | e; (exact hn.2 e); omega)).trans hk
      have hn' : ¬ S' (w.heap.size + 1) ∧ ¬ S' w.heap.size := ⟨hS', fun e => by rcases hg' _ e with h1 | h1; (exact hn.2 h1); omega⟩
      have hgg : Grows S0 w S' := fun k hk1 => by
        rcases hg' k hk1 with h1 | h1
        · exact hg k h1
        · right; omega
      refine ⟨O S', ?_, ?_, ?_⟩
      · subst hO
        intro k hk1
        rcases hk1 with h1 | h1
        · rcases hg' k h1 with h2 | h2
          · exact .inl (.inl h2)
          · exact .inr h2
        · exact .inl (.inr h1)
      · subst hO
        exact hkept.widen fun k h1 => by
          rcases h1 with h1 | h1
          · exact .inl h1
          · exact .inr (.inl h1)
      · rcases h with ⟨rfl, h1, h2⟩ | ⟨rfl, c, h1, h2⟩
        · exact .inl ⟨rfl, S', rfl, hn', hgg, h1, h2, hk'⟩
        · exact .inr ⟨rfl, S', c, rfl, hn', hgg, h1, h2, hk'⟩
    · rintro e W2 ⟨_, _, _, (⟨⟨S, rfl, hn, hg, hi, hl, hk⟩, hE⟩ | ⟨⟨v, rfl⟩, pre, hp, S, c, rfl, hn, hg, hi, hl, hk⟩)⟩
      · have hlt := (Array.getElem?_eq_some_iff.1 hl).1
        cases hdi : die with
        | some ch =>
          rw [hdi] at hE
          subst hE
          exact hdie ch _ S _ hdi (Nat.le_refl _) (by omega) hn.2 hi hg hk
        | none =>
          rw [hdi] at hE
          obtain ⟨⟨v, rfl⟩, hF⟩ := hE
          exact ⟨none, _, by have := run_endLoop (P := P) hl (by rw [hrec]; simp); rw [hrec] at this; exact this, hdone _ S _ (Nat.le_refl _) (by simp [World.putObj]; omega) hn.2 (hI.1 _ _ _ _ hi ((Kept.refl _ _).putObj (r := w.heap.size + 1) ⟨hn.1, .inl (by omega)⟩ _)) hg hdi (hfin _ _ hF ((Kept.refl _ _).putObj (r := w.heap.size + 1) (by omega) _)) ((World.putObj_heap_other (by omega)).trans hk)⟩
      · have hlt := (Array.getElem?_eq_some_iff.1 hl).1
        exact ⟨some c, _, by have := run_endLoop (P := P) hl (by rw [hrec]; simp); rw [hrec] at this; exact this, hstop _ c pre S _ (Nat.le_refl _) (by simp [World.putObj]; omega) hn.2 hp ((hIx c).1 _ _ _ _ hi ((Kept.refl _ _).putObj (r := w.heap.size + 1) ⟨hn.1, .inl (by omega)⟩ _)) hg ((World.putObj_heap_other (by omega)).trans hk)⟩
end Go.Proofs.Ytlcccomdijdkaaa
namespace Go.Proofs.Ytlcccomdijdkaaa
open Go.RowKit

variable {P : Program} {X : Ctx} {E : Env} {a : Act} {w : World} {st : SState} {K : Act → World → Prop} {Po : Exit → Act → World → Prop} {ro : Option Nat} {n : Nat}

/-- no fence at all, in a round (some l) or outside of rounds (none) -/
abbrev FW (ro : Option Nat) : Fence := { Fence.wide with round := ro }
abbrev FR (l : Nat) : Fence := FW (some l)
theorem FW_none : FW none = Fence.wide := rfl
theorem FR_in (l : Nat) : FR l = Fence.wide.inRound l := rfl
theorem callsFR {f : FuncId} {args : Array Value} {R : Ending → World → Prop} (h : Calls P f args w R) : CallsIn (FW ro) n P f args w R := (callsIn_wide (n := n)).2 h
theorem upon_in {o : Oper} (hd : ∀ c, o.op ≠ .defer c) (h : o.wp P a w K Po) : o.wpIn (FW ro) n P a w K Po := by
  refine ⟨fun _ _ => trivial, ?_⟩
  rw [show (FW ro).round = ro from rfl, Oper.semAt_eq ro a.eval o hd]
  unfold Oper.wp at h
  revert h
  generalize (execOp a.eval o).run P w = r
  intro h
  cases r with
  | ok x w' =>
    cases x with
    | value v => exact h
    | skip => exact h
    | defer d => exact h
    | enter f args => exact ⟨fun hh => (by cases hh), (callsFR (n := n - 1) h : CallsIn (FW ro) (n - 1) P f args w' _).mono fun e w'' hR => by cases e <;> exact hR⟩
    | row row args =>
      refine ⟨fun hh => (by cases hh), fun c cs _ => ?_⟩
      obtain ⟨v, w'', h1, h2⟩ := h c cs
      exact ⟨v, w'', h1, stepsIn_wide.2 h2⟩
    | _ => simp [Oper.upon] at h
  | halt e w' =>
    cases e with
    | panic v => exact h
    | _ => simp [Oper.upon] at h
def isDefer : Op → Bool
  | .defer _ => true
  | _ => false
def noDefer (l : List Oper) : Bool := l.all fun o => !isDefer o.op
theorem noDefer_ok {l : List Oper} (h : noDefer l = true) : ∀ o ∈ l, ∀ c, o.op ≠ .defer c := fun o ho c hc => by
  have := List.all_eq_true.1 h o ho
  rw [hc] at this
  cases this
theorem seq_soundI {lay : Lay} (hl : LayOK P lay) {ops : List Oper} {hs : List (Nat × Hint)} {rest : List Oper} : ∀ (k : List Oper) (i : Nat) (st : SState) (tr : List IT) (obs : List Ob) (st' : SState) (E : Env) (a : Act) (w : World),
    evalOps lay ops hs i k st = some (tr, obs, st') → AllOb P X.w0.heap.size obs → (∀ o ∈ k, ∀ d, o.dst = some d → d < X.n) → (∀ o ∈ k, ∀ c, o.op ≠ .defer c) → St X st E a w → (∀ E' a' w', St X st' E' a' w' → wpListIn (FW ro) n P ops.toArray Po rest a' w') → wpListIn (FW ro) n P ops.toArray Po (k ++ rest) a w
  | [], i, st, tr, obs, st', E, a, w, he, _, _, _, S, kk => by
    simp only [evalOps, Option.some.injEq, Prod.mk.injEq] at he
    obtain ⟨_, _, rfl⟩ := he
    exact kk E a w S
  | o :: k, i, st, tr, obs, st', E, a, w, he, ho, hd, hdf, S, kk => by
    simp only [evalOps] at he
    cases hi : itemOf lay ops st o (hintAt hs i) with
    | none => rw [hi] at he; simp at he
    | some r =>
      obtain ⟨x, ob⟩ := r
      rw [hi] at he
      simp only at he
      cases hr : evalOps lay ops hs (i + 1) k (applyTI st x) with
      | none => rw [hr] at he; simp at he
      | some r2 =>
        obtain ⟨tr2, obs2, st2⟩ := r2
        rw [hr] at he
        simp only [Option.some.injEq, Prod.mk.injEq] at he
        obtain ⟨rfl, rfl, rfl⟩ := he
        obtain ⟨o1, o2⟩ := AllOb.append ho
        obtain ⟨n1, n2, n3⟩ := itemOf_new hi
        rw [List.cons_append]
        refine wpListIn_step fun K hK => ?_
        have := item_sound (K := K) (Q := Po) hl hi o1 S (fun _ _ => rfl) (fun _ _ => rfl) (fun g y h1 h2 => by
            obtain ⟨f1, f2⟩ := n2 g y h1 h2
            exact ⟨(freshBl_ok f2).1, freshS_ok f1, (freshBl_ok f2).2⟩) (fun g y h1 h2 => n3 g y h1 h2) (fun d hd' => hd o (by simp) d hd') (fun E' a' w' S' => hK a' w' (by
            refine seq_soundI hl k (i + 1) (applyTI st x) tr2 obs2 st2 E' a' w' hr o2 (fun o' ho' => hd o' (by simp [ho'])) (fun o' ho' => hdf o' (by simp [ho'])) ?_ kk
            unfold St
            rw [applyTI_slots, applyTI_blks, (applyTI_rest st x).1, (applyTI_rest st x).2]
            exact S'))
        split
        · rename_i hw
          rw [if_pos hw] at this
          exact upon_in (hdf o (by simp)) this
        · rename_i hw
          rw [if_neg hw] at this
          exact ⟨fun _ _ => trivial, this⟩
theorem sym_runI {lay : Lay} (hl : LayOK P lay) {ops k : List Oper} (hs : List (Nat × Hint)) (i m : Nat) (st' : SState) (obs : List Ob) (S : St X st E a w) (hn : dstB X.n k = true) (hdf : noDefer k = true)
    (hev : evalN lay ops hs i m k st = some (st', obs)) (ho : AllOb P X.w0.heap.size obs) (kk : ∀ E' a' w', St X st' E' a' w' → wpListIn (FW ro) n P ops.toArray Po (k.drop m) a' w') : wpListIn (FW ro) n P ops.toArray Po k a w := by
  unfold evalN at hev
  cases h1 : evalOps lay ops hs i (k.take m) st with
  | none => rw [h1] at hev; simp at hev
  | some r =>
    obtain ⟨tr, obs2, st2⟩ := r
    rw [h1] at hev
    simp only [Option.some.injEq, Prod.mk.injEq] at hev
    obtain ⟨rfl, rfl⟩ := hev
    have := seq_soundI (X := X) (Po := Po) (ro := ro) (n := n) (rest := k.drop m) hl (k.take m) i st tr obs2 st2 E a w h1 ho (fun o ho => dstB_ok hn o (List.mem_of_mem_take ho)) (fun o ho => noDefer_ok hdf o (List.mem_of_mem_take ho)) S kk
    rwa [List.take_append_drop] at this
theorem sym_openI {id : Nat} {ops : List Oper} (h : wpListIn (FW ro) n P ops.toArray Po ops a w) : (Code.region id ops.toArray false).wpIn (FW ro) n P Po a w := wpIn_region_lit h
theorem sym_doneI {ops : List Oper} {k : List Oper} (hl : k = []) (h : Po .normal a w) : wpListIn (FW ro) n P ops.toArray Po k a w := by subst hl; exact h
/-- yield is called -/
theorem sym_yield {ops r : List Oper} {o : Oper} {x y : Operand} {ts : Array TypeId} {ln : Nat} {u : Value} {T : Ending → World → Prop} (ho : o.op = .call { callee := .value x, args := #[y], argTypes := ts }) (hgd : o.guard = none) (hx : a.eval x = .func (.yield ln) #[] #[]) (hy : a.eval y = u)
    (hY : YieldAt (FW ro) (n - 1) P ln #[u] w T) (h : ∀ e w', T e w' → ∃ v, e = .returned v ∧ wpListIn (FW ro) n P ops.toArray Po r (a.put o.dst v) w') : wpListIn (FW ro) n P ops.toArray Po (o :: r) a w := by
  obtain ⟨fn, tm, asg, bo, hr, hR⟩ := hY
  refine wpListIn_plain hgd fun K hK => ?_
  refine ⟨fun _ _ => trivial, ?_⟩
  rw [show (FW ro).round = ro from rfl, Oper.semAt_eq ro a.eval o (by rw [ho]; intro c hc; cases hc)]
  have hx1 : (execOp a.eval o).run P w = .ok (.round ln fn tm asg bo) w := by
    obtain ⟨dst, op, ty, pos, aft, gd⟩ := o
    simp only at ho
    subst ho
    simp only [execOp, resolve, Sem.run_bind, hx, Deferred.ofValue, Sem.run_pure, Result.andThen_ok, invoke]
    simpa [hy] using hr
  rw [hx1]
  refine ⟨fun hh => (by cases hh), hR.mono fun e w' hT => ?_⟩
  obtain ⟨v, rfl, h2⟩ := h e w' hT
  exact hK _ _ h2
/-- a call of a function, whatever it does -/
theorem sym_callI {ops r : List Oper} {o : Oper} {x : Operand} {args : Array Operand} {ts : Array TypeId} {f : FuncId} {vs : Array Value} {T : Ending → World → Prop} (ho : o.op = .call { callee := .value x, args := args, argTypes := ts }) (hgd : o.guard = none) (hx : a.eval x = .func (.func f) #[] #[]) (hy : args.map a.eval = vs) (hE : EntersOK P f)
    (hC : Calls P f vs w T) (h : ∀ e w', T e w' → (∃ v, e = .returned v ∧ wpListIn (FW ro) n P ops.toArray Po r (a.put o.dst v) w') ∨ ∃ ch, e = .panicked ch ∧ Po (.panic ch) a w') : wpListIn (FW ro) n P ops.toArray Po (o :: r) a w := by
  refine wpListIn_plain hgd fun K hK => upon_in (by rw [ho]; intro c hc; cases hc) ?_
  unfold Oper.wp
  have hx1 : (execOp a.eval o).run P w = .ok (.enter f vs) w := by
    obtain ⟨dst, op, ty, pos, aft, gd⟩ := o
    simp only at ho
    subst ho
    simp only [execOp, resolve, Sem.run_bind, hx, Deferred.ofValue, Sem.run_pure, Result.andThen_ok, invoke, hy]
    rw [show ((#[] : Array Value) ++ vs ++ #[]) = vs from by simp]
    exact hE _ _
  rw [hx1]
  refine hC.mono fun e w' hT => ?_
  rcases h e w' hT with ⟨v, rfl, h2⟩ | ⟨ch, rfl, h2⟩
  · exact hK _ _ h2
  · exact h2
end Go.Proofs.Ytlcccomdijdkaaa
namespace Go.Proofs.Ytlcccomdijdkaaa
open Go.RowKit

variable {P : Program} {X : Ctx} {E : Env} {a : Act} {w : World} {st : SState} {ro : Option Nat} {n0 : Nat}

/-- append of a row of the call's own -/
theorem sym_appendI {lay : Lay} (hl : LayOK P lay) {ops l r : List Oper} {o : Oper} {Po : Exit → Act → World → Prop} (hL : l = o :: r) (x y : Operand) (t : TypeId) (ho : o.op = .call { callee := .builtin .append, args := #[x, y], argTypes := #[t, t] }) (hgd : o.guard = none)
    (S : St X st E a w) (k g len m cap : Nat) (ty : TypeId) (cs : List SV) (q : GQ) (d dt : TyD) (hx : opnd st.slots x = some (.gr k)) (hq : look st.m.grs k = some q) (hy : opnd st.slots y = some (.row g 0 m cap)) (hg : look st.m.blks g = some (.blk ty cs))
    (hdt : look lay t = some dt) (hsl : dt.k = .sli q.ty q.n) (hd : look lay q.ty = some d) (hn : d.n = q.n) (hpos : 0 < q.n) (hcs : cs.length = m * q.n) (hone : cs.all (oneB st.m) = true) (hdn : ∀ e, o.dst = some e → e < X.n)
    (q' : GQ) (e1 : q'.ty = q.ty) (e2 : q'.n = q.n) (e3 : q'.len = q.len + m) (e4 : ∀ E, q'.xs = q.xs ++ SV.vals E cs) (hb1 : q.len + m ≤ 4611686018427387904) (hb2 : (q.len + m) * d.by' ≤ 140737488355328) (hlen : len = len)
    (kk : ∀ v0 E' a' w', St X { st.setgr k v0 q' with slots := match o.dst with | some d => (d, .gr k) :: (st.setgr k v0 q').slots | none => (st.setgr k v0 q').slots } E' a' w' → wpListIn (FW ro) n0 P ops.toArray Po r a' w') : wpListIn (FW ro) n0 P ops.toArray Po l a w := by
  subst hL
  have ev : ∀ z sv, opnd st.slots z = some sv → a.eval z = sv.val E := fun z sv hz => by
    cases z with
    | tmp t => simp only [opnd] at hz; have := S.slot t sv hz; simp [Act.eval, this]
    | const v => simp [opnd] at hz; subst hz; rfl
    | global g => simp [opnd] at hz; subst hz; rfl
    | func f => simp [opnd] at hz; subst hz; rfl
  obtain ⟨u, hu, hmm⟩ := (hl t dt hdt).under
  rw [hsl] at hmm
  obtain ⟨rfl, hkn, hes⟩ := hmm
  obtain ⟨_, i, hi, his, z, hz, hzc⟩ := (hl q.ty d hd).size
  have hby : i.bytes = d.by' := by have := (hl q.ty d hd).bytes; simpa [Program.bytesOf, hi] using this
  have hzs : z.cells.size = q.n := by
    have := (hl q.ty d hd).zlen
    rw [← hn, ← this, ← hzc]
    simp
  have hG := S.mem.gr k q hq
  have hB := S.mem.blk g ty cs hg
  have hgr : Nice E st.m := ⟨fun k q hq => by
    obtain ⟨A, c, e⟩ := gr_slice (S.mem.gr k q hq)
    exact ⟨A, _, c, e⟩, S.mem.one⟩
  refine wpListIn_append_own_at w hgd x y t ho 0 q.ty i z q.n d.by' hu hi hz (his.trans hn) hby hzs hpos (E.gr k) q.len q.xs (ev x _ hx) hG ⟨E.ρ g, 0, none⟩ m cap (SV.vals E cs) (ev y _ hy) (by rw [vals_length, hcs]) (fun j u hj => by
    rw [add_plain', Nat.zero_add, hB.cell]; simpa using hj) (fun v hv => ?_) (by simp only [maxLen]; omega) hb2 (Nat.zero_le _) ?_
  · rw [SV.vals_map] at hv
    obtain ⟨s, hs, rfl⟩ := List.mem_map.1 hv
    exact oneB_ok hgr (List.all_eq_true.1 hone s hs)
  · intro v' w' hown hgrow _ hat
    have S' := S.setgr k q' (row := (E.gr k).ownBlock) hgrow (fun b hb => ⟨q, hq, hb⟩) (by unfold GrAt; rw [e1, e2, e3, e4 E]; exact hown) (fun b hb => by
      rcases hat with h1 | h1
      · rw [h1] at hb; exact .inl hb
      · rw [h1] at hb; simp only [Option.some.injEq] at hb; omega)
    have S2 := StF.putD S' hdn (.gr k)
    simp only [SV.val, Env.updG_same] at S2
    refine kk (E.gr k) (E.updG k v') (a.put o.dst v') w' ?_
    unfold St
    cases hdst : o.dst with
    | none => rw [hdst] at S2; exact S2
    | some e =>
      rw [hdst] at S2
      simp only
      rw [look_upd]
      exact S2

/-- the blocks of a state's own -/
abbrev SState.own (st : SState) (E : Env) : Nat → Prop := OwnB (look st.m.blks) st.m.grs E
theorem St.own_lt (S : St X st E a w) : ∀ k, st.own E k → k < w.heap.size := fun _ hk => StF.ltB S hk
/-- seen from now on -/
theorem St.rebase (S : St X st E a w) (C : Nat → Prop) (hC : ∀ k, st.own E k → C k) : St { X with w0 := w, C := C, R := allR, ρ0 := E.ρ, sl0 := E.sl, x0 := E.x } st E a w :=
  ⟨S.slot, S.size, S.defers, Kept.refl _ _, ⟨S.mem.blk, S.mem.rd, S.mem.gr, S.mem.one⟩,
    ⟨fun g t cs hx => .inr (hC _ (.inl ⟨g, t, cs, hx, rfl⟩)), S.sep.inj, ⟨S.sep.ginj.1, fun k x b hx hb => .inr (hC _ (.inr ⟨k, x, hx, hb⟩))⟩, S.sep.mix, fun s q b off hq hl hA => ⟨(S.sep.rd s q b off hq hl hA).1, .inr trivial⟩, fun g Φ hx => (S.sep.held g Φ hx).mono fun k _ h => ⟨h.1, .inr trivial⟩⟩, fun _ _ => rfl, fun _ _ => rfl, fun _ _ => rfl⟩
/-- another frame -/
theorem St.frame (S : St X st E a w) {a' : Act} (hs : ∀ t sv, look st.slots t = some sv → a'.tmps[t]? = some (sv.val E)) (hz : a'.tmps.size = X.n) : St { X with D := a'.defers } st E a' w :=
  ⟨hs, hz, rfl, S.kept, S.mem, S.sep, S.pin⟩
/-- a world in which only blocks that the state does not speak of have turned -/
theorem St.moved (S : St X st E a w) {C : Nat → Prop} {w' : World} (hk : Kept C w w') (hr : ∀ s q b off, look st.m.rds s = some q → 0 < q.len → (E.sl s).A = some ⟨b, off, none⟩ → ¬ C b) (hh : ∀ g Φ, look st.m.blks g ≠ some (.held Φ)) (hC : ∀ k, k < w.heap.size → C k → ¬ st.own E k ∧ (X.w0.heap.size ≤ k ∨ X.C k)) : St X st E a w' := by
  have hb : ∀ k, st.own E k → w'.heap[k]? = w.heap[k]? := fun k ho => hk.block k (S.own_lt k ho) (fun hc => (hC k (S.own_lt k ho) hc).1 ho)
  refine ⟨S.slot, S.size, S.defers, ⟨hk.os.trans S.kept.os, hk.tape.trans S.kept.tape, hk.output.trans S.kept.output, Nat.le_trans S.kept.size hk.size, fun k hlt hn => ?_⟩,
    ⟨fun g t cs hx => (hb _ (.inl ⟨g, t, cs, hx, rfl⟩)).trans (S.mem.blk g t cs hx), fun s q hq => (S.mem.rd s q hq).move hk.size fun b off hl hA hlt => hk.block b hlt (hr s q b off hq hl hA), fun k q hq => (S.mem.gr k q hq).move fun b hbb => hb b (.inr ⟨k, q, hq, hbb⟩), S.mem.one⟩,
    ⟨S.sep.base, S.sep.inj, S.sep.ginj, S.sep.mix, S.sep.rd, fun g Φ hx => absurd hx (hh g Φ)⟩, S.pin⟩
  have hlt' : k < w.heap.size := Nat.lt_of_lt_of_le hlt S.kept.size
  refine (hk.block k hlt' (fun hc => ?_)).trans (S.kept.block k hlt hn)
  rcases (hC k hlt' hc).2 with h | h
  · omega
  · exact hn h
/-- the same cells, spelt otherwise -/
theorem St.recell (S : St X st E a w) {g : Nat} {t : TypeId} {cs cs' : List SV} (hg : look st.m.blks g = some (.blk t cs)) (hv : SV.vals E cs' = SV.vals E cs) : St X { st with m := { st.m with blks := (g, .blk t cs') :: st.m.blks } } E a w := by
  have hb : ∀ k t1 c1, look ((g, BE.blk t cs') :: st.m.blks) k = some (.blk t1 c1) → ∃ c2, look st.m.blks k = some (.blk t1 c2) ∧ SV.vals E c1 = SV.vals E c2 := fun k t1 c1 hx => by
    rcases look_cases hx with ⟨rfl, e⟩ | ⟨_, h2⟩
    · simp only [BE.blk.injEq] at e
      obtain ⟨rfl, rfl⟩ := e
      exact ⟨cs, hg, hv⟩
    · exact ⟨c1, h2, rfl⟩
  have hd : ∀ k Φ, look ((g, BE.blk t cs') :: st.m.blks) k = some (.held Φ) → look st.m.blks k = some (.held Φ) := fun k Φ hx => by
    rcases look_cases hx with ⟨_, e⟩ | ⟨_, h2⟩
    · cases e
    · exact h2
  have hap : ∀ k, Apart X.w0.heap.size X.R (look st.m.blks) st.m.grs E k → Apart X.w0.heap.size X.R (look ((g, BE.blk t cs') :: st.m.blks)) st.m.grs E k := fun k h => ⟨fun ho => h.1 (by
    rcases ho with ⟨k', t1, c1, hx, e⟩ | hk
    · obtain ⟨c2, h2, _⟩ := hb k' t1 c1 hx; exact .inl ⟨k', t1, c2, h2, e⟩
    · exact .inr hk), h.2⟩
  exact ⟨S.slot, S.size, S.defers, S.kept, ⟨fun k t1 c1 hx => by obtain ⟨c2, h2, e⟩ := hb k t1 c1 hx; rw [e]; exact S.mem.blk k t1 c2 h2, S.mem.rd, S.mem.gr, S.mem.one⟩,
    ⟨fun k t1 c1 hx => by obtain ⟨c2, h2, _⟩ := hb k t1 c1 hx; exact S.sep.base k t1 c2 h2, fun k k' t1 t2 c1 c2 hx hy e => by obtain ⟨d1, h1, _⟩ := hb k t1 c1 hx; obtain ⟨d2, h2, _⟩ := hb k' t2 c2 hy; exact S.sep.inj k k' _ _ _ _ h1 h2 e, S.sep.ginj,
      fun k j t1 c1 y hx hy => by obtain ⟨d1, h1, _⟩ := hb k t1 c1 hx; exact S.sep.mix k j _ _ y h1 hy, fun s q b off hq hl hA => hap b (S.sep.rd s q b off hq hl hA), fun k Φ hx => (S.sep.held k Φ (hd k Φ hx)).mono fun b _ => hap b⟩, S.pin⟩
theorem St.reslot (S : St X st E a w) {t : Nat} {sv sv' : SV} (h : look st.slots t = some sv) (hv : sv'.val E = sv.val E) : St X { st with slots := (t, sv') :: st.slots } E a w :=
  ⟨fun k x hx => by
    rcases look_cases hx with ⟨rfl, rfl⟩ | ⟨_, h2⟩
    · rw [hv]; exact S.slot _ _ h
    · exact S.slot k x h2, S.size, S.defers, S.kept, S.mem, S.sep, S.pin⟩
end Go.Proofs.Ytlcccomdijdkaaa
namespace Go.Proofs.Ytlcccomdijdkaaa
open Go.RowKit

/-- a state, made of a frame -/
def AllSl (a : Act) (E : Env) : List (Nat × SV) → Prop
  | [] => True
  | (t, sv) :: r => a.tmps[t]? = some (sv.val E) ∧ AllSl a E r
theorem AllSl.get {a : Act} {E : Env} : ∀ {l : List (Nat × SV)}, AllSl a E l → ∀ t sv, look l t = some sv → a.tmps[t]? = some (sv.val E)
  | [], _, t, sv, h => by simp [look] at h
  | (k, x) :: r, h, t, sv, hs => by
    rcases look_cases hs with ⟨rfl, rfl⟩ | ⟨_, h2⟩
    · exact h.1
    · exact AllSl.get h.2 t sv h2
theorem St.make (cbs : List CB) {slots : List (Nat × SV)} {a : Act} {w : World} {n : Nat} (hs : AllSl a (envC [] [] cbs) slots) (hz : a.tmps.size = n) (hd : a.defers = []) (hB : AllCB w (envC [] [] cbs) cbs) (hA : ApartCB cbs) :
    St ⟨w, inCB cbs, n, [], allR, rhoOf cbs, (envOf []).sl, (envOf []).x⟩ ⟨slots, ⟨blksOf cbs, [], []⟩⟩ (envC [] [] cbs) a w := by
  refine ⟨hs.get, hz, hd, Kept.refl _ _, ⟨fun g t cs hx => ?_, fun s q hq => by simp [look] at hq, fun k q hq => by simp [look] at hq, envOf_one (xs := []) (sls := []) trivial⟩,
    ⟨fun g t cs hx => ?_, fun g g' t t' cs cs' hx hy e => ?_, ⟨fun k k' x y b hx => by simp [look] at hx, fun k x b hx => by simp [look] at hx⟩, fun g k t cs y _ hy => by simp [look] at hy, fun s q b off hq => by simp [look] at hq, fun g Φ hx => ?_⟩, fun _ _ => rfl, fun _ _ => rfl, fun _ _ => rfl⟩
  · obtain ⟨x, hx1, _, hx2, hx3⟩ := blksOf_look hx
    simp only [BE.blk.injEq] at hx2
    obtain ⟨rfl, rfl⟩ := hx2
    have := hB.get x hx1
    rw [show (envC [] [] cbs).ρ g = x.b from hx3]
    exact this
  · obtain ⟨x, hx1, _, _, hx3⟩ := blksOf_look hx
    exact .inr ⟨x, hx1, hx3.symm⟩
  · obtain ⟨x, hx1, rfl, _, hx3⟩ := blksOf_look hx
    obtain ⟨y, hy1, rfl, _, hy3⟩ := blksOf_look hy
    have e' : x.b = y.b := by rw [← hx3, ← hy3]; exact e
    rw [hA.get x hx1 y hy1 e']
  · obtain ⟨x, _, _, hx2, _⟩ := blksOf_look hx
    cases hx2

abbrev envG (cbs : List CB) (V : Value) : Env := { envC [] [] cbs with gr := fun _ => V }
theorem St.make2 (cbs : List CB) (k : Nat) (q : GQ) (V : Value) {slots : List (Nat × SV)} {a : Act} {w : World} {n : Nat} (hs : AllSl a (envG cbs V) slots) (hz : a.tmps.size = n) (hB : AllCB w (envG cbs V) cbs) (hA : ApartCB cbs) (hG : GrAt w 0 q V) (hV : ∀ b, V.ownBlock = some b → NotCB b cbs) :
    St ⟨w, fun b => inCB cbs b ∨ V.ownBlock = some b, n, a.defers, allR, rhoOf cbs, (envOf []).sl, (envOf []).x⟩ ⟨slots, ⟨blksOf cbs, [], [(k, q)]⟩⟩ (envG cbs V) a w := by
  have one : ∀ {j y}, look [(k, q)] j = some y → j = k ∧ y = q := fun {j y} h => by
    rcases look_cases h with ⟨rfl, rfl⟩ | ⟨_, h2⟩
    · exact ⟨rfl, rfl⟩
    · simp [look] at h2
  refine ⟨hs.get, hz, rfl, Kept.refl _ _, ⟨fun g t cs hx => ?_, fun s q hq => by simp [look] at hq, fun j y hq => ?_, envOf_one (xs := []) (sls := []) trivial⟩,
    ⟨fun g t cs hx => ?_, fun g g' t t' cs cs' hx hy e => ?_, ⟨fun j j' x y b hx hy _ _ => (one hx).1.trans (one hy).1.symm, fun j x b _ hb => .inr (.inr hb)⟩, fun g j t cs y hx _ => ?_, fun s q b off hq => by simp [look] at hq, fun g Φ hx => ?_⟩, fun _ _ => rfl, fun _ _ => rfl, fun _ _ => rfl⟩
  · obtain ⟨x, hx1, _, hx2, hx3⟩ := blksOf_look hx
    simp only [BE.blk.injEq] at hx2
    obtain ⟨rfl, rfl⟩ := hx2
    have := hB.get x hx1
    rw [show (envG cbs V).ρ g = x.b from hx3]
    exact this
  · obtain ⟨_, rfl⟩ := one hq
    exact hG
  · obtain ⟨x, hx1, _, _, hx3⟩ := blksOf_look hx
    exact .inr (.inl ⟨x, hx1, hx3.symm⟩)
  · obtain ⟨x, hx1, rfl, _, hx3⟩ := blksOf_look hx
    obtain ⟨y, hy1, rfl, _, hy3⟩ := blksOf_look hy
    have e' : x.b = y.b := by rw [← hx3, ← hy3]; exact e
    rw [hA.get x hx1 y hy1 e']
  · obtain ⟨x, hx1, _, _, hx3⟩ := blksOf_look hx
    intro he
    exact (hV _ he).get x hx1 hx3
  · obtain ⟨x, _, _, hx2, _⟩ := blksOf_look hx
    cases hx2
end Go.Proofs.Ytlcccomdijdkaaa
namespace Go.Proofs.Ytlcccomdijdkaaa
open Go.RowKit

variable {P : Program} {X : Ctx} {E : Env} {a : Act} {w : World} {st : SState}
/-- fewer things known, rows that grow among them -/
theorem St.pickG (S : St X st E a w) (ks gs js : List Nat) (st' : SState) (h : (⟨pickL ks st.slots, { st.m with blks := pickL gs st.m.blks, grs := pickL js st.m.grs }⟩ : SState) = st') : St X st' E a w := by
  subst h
  have hb : ∀ g y, look (pickL gs st.m.blks) g = some y → look st.m.blks g = some y := fun g y h => pickL_sub _ _ _ _ h
  have hg : ∀ k q, look (pickL js st.m.grs) k = some q → look st.m.grs k = some q := fun k q h => pickL_sub _ _ _ _ h
  have ho : ∀ k, OwnB (look (pickL gs st.m.blks)) (pickL js st.m.grs) E k → OwnB (look st.m.blks) st.m.grs E k := by
    rintro k (⟨g, t, cs, hx, e⟩ | ⟨j, q, hx, e⟩)
    · exact .inl ⟨g, t, cs, hb _ _ hx, e⟩
    · exact .inr ⟨j, q, hg _ _ hx, e⟩
  have hap : ∀ k, Apart X.w0.heap.size X.R (look st.m.blks) st.m.grs E k → Apart X.w0.heap.size X.R (look (pickL gs st.m.blks)) (pickL js st.m.grs) E k := fun k hk => ⟨fun h => hk.1 (ho k h), hk.2⟩
  exact ⟨fun t sv ht => S.slot t sv (pickL_sub _ _ _ _ ht), S.size, S.defers, S.kept, ⟨fun g t cs hx => S.mem.blk g t cs (hb _ _ hx), S.mem.rd, fun k q hq => S.mem.gr k q (hg _ _ hq), S.mem.one⟩,
    ⟨fun g t cs hx => S.sep.base g t cs (hb _ _ hx), fun g g' t t' cs cs' hx hy => S.sep.inj g g' _ _ _ _ (hb _ _ hx) (hb _ _ hy), ⟨fun k k' x y b hx hy => S.sep.ginj.1 k k' x y b (hg _ _ hx) (hg _ _ hy), fun k x b hx => S.sep.ginj.2 k x b (hg _ _ hx)⟩, fun g k t cs y hx hy => S.sep.mix g k t cs y (hb _ _ hx) (hg _ _ hy), fun s q b off hq hl hA => hap b (S.sep.rd s q b off hq hl hA), fun g Φ hΦ => (S.sep.held g Φ (hb _ _ hΦ)).mono fun k _ => hap k⟩, S.pin⟩
/-- a row that grows, as a slice that is handed over -/
theorem Mem.grSl {B : Nat} {R : Nat → Prop} {m : MState} {k : Nat} {q : GQ} (h : Mem B R m E w) (hq : look m.grs k = some q) : ∃ A cap, E.gr k = .slice A q.len cap ∧ q.len ≤ cap ∧ ∀ get : Nat → List Value, (∀ i, i < q.len → ∀ j x, (get i)[j]? = some x → q.xs[i * q.n + j]? = some x) → SlAt w A q.len q.n get := by
  have hG := h.gr k q hq
  have hS := fun get hg => (GrAt.slice (B := 0) hG (fun b _ => Nat.zero_le _) 0 (fun _ => E.gr k) rfl get hg).out
  obtain ⟨A, c, e⟩ := gr_slice hG
  obtain ⟨A1, c1, e1, hc, _⟩ := hS (fun _ => []) (fun i hi j x hx => by simp at hx)
  rw [e] at e1
  simp only [Value.slice.injEq, true_and] at e1
  obtain ⟨rfl, rfl⟩ := e1
  refine ⟨A, c, e, hc, fun get hg => ?_⟩
  obtain ⟨A2, c2, e2, _, hs⟩ := hS get hg
  rw [e] at e2
  simp only [Value.slice.injEq, true_and] at e2
  obtain ⟨rfl, rfl⟩ := e2
  exact hs
theorem SlAt.nil {n : Nat} {get : Nat → List Value} : SlAt w none 0 n get := fun h => absurd h (Nat.lt_irrefl 0)
theorem InR.new {B : Nat} {A : Option Addr} {len : Nat} {R : Nat → Prop} {n : Nat} {get : Nat → List Value} {W : World} (hs : SlAt W A len n get) (hR : ∀ k, k < W.heap.size → R k) : InR R A len := fun b off hl hA => by
  obtain ⟨b', off', hA', hlt, _⟩ := hs hl
  rw [hA] at hA'
  have e : b = b' := by simpa using congrArg (fun o => (o.map Addr.block).getD 0) hA'
  subst e
  exact hR b hlt
/-- the next operations, reckoned; of what they leave, this is kept -/
def evalP (lay : Lay) (ops : List Oper) (hs : List (Nat × Hint)) (i n : Nat) (ks gs : List Nat) (l : List Oper) (st : SState) : Option (SState × List Ob) := match evalN lay ops hs i n l st with
  | some (s, obs) => some (⟨pickL ks s.slots, { s.m with blks := pickL gs s.m.blks }⟩, obs)
  | none => none
theorem sym_runP {lay : Lay} (hl : LayOK P lay) {ops l : List Oper} (hs : List (Nat × Hint)) (i n : Nat) (ks gs : List Nat) (st' : SState) (obs : List Ob) {Q : Exit → Act → World → Prop} (S : St X st E a w) (hn : dstB X.n l = true)
    (hev : evalP lay ops hs i n ks gs l st = some (st', obs)) (ho : AllOb P X.w0.heap.size obs) (k : ∀ E' a' w', St X st' E' a' w' → wpList P ops.toArray Q (l.drop n) a' w') : wpList P ops.toArray Q l a w := by
  unfold evalP at hev
  cases h1 : evalN lay ops hs i n l st with
  | none => rw [h1] at hev; simp at hev
  | some r =>
    obtain ⟨s, o2⟩ := r
    rw [h1] at hev
    simp only [Option.some.injEq, Prod.mk.injEq] at hev
    obtain ⟨rfl, rfl⟩ := hev
    exact sym_run hl hs i n s o2 S hn h1 ho fun E' a' w' S' => k E' a' w' (S'.pick ks gs _ rfl)
theorem sym_runIP {lay : Lay} (hl : LayOK P lay) {ops k : List Oper} {ro : Option Nat} {n : Nat} {Po : Exit → Act → World → Prop} (hs : List (Nat × Hint)) (i m : Nat) (ks gs : List Nat) (st' : SState) (obs : List Ob) (S : St X st E a w) (hn : dstB X.n k = true) (hdf : noDefer k = true)
    (hev : evalP lay ops hs i m ks gs k st = some (st', obs)) (ho : AllOb P X.w0.heap.size obs) (kk : ∀ E' a' w', St X st' E' a' w' → wpListIn (FW ro) n P ops.toArray Po (k.drop m) a' w') : wpListIn (FW ro) n P ops.toArray Po k a w := by
  unfold evalP at hev
  cases h1 : evalN lay ops hs i m k st with
  | none => rw [h1] at hev; simp at hev
  | some r =>
    obtain ⟨s, o2⟩ := r
    rw [h1] at hev
    simp only [Option.some.injEq, Prod.mk.injEq] at hev
    obtain ⟨rfl, rfl⟩ := hev
    exact sym_runI hl hs i m s o2 S hn hdf h1 ho fun E' a' w' S' => kk E' a' w' (S'.pick ks gs _ rfl)
end Go.Proofs.Ytlcccomdijdkaaa
namespace Go.Proofs.Ytlcccomdijdkaaa
open Go.RowKit

variable {P : Program} {X : Ctx} {E : Env} {a : Act} {w : World} {st : SState}
mutual
theorem SV.val_updS (E : Env) (s : Nat) (r : RS) : ∀ x : SV, x.noS s = true → x.val (E.updS s r) = x.val E
  | .sl s', h => by
    simp only [SV.noS, Bool.not_eq_true'] at h
    have : s' ≠ s := fun e => by subst e; simp at h
    simp [SV.val, Env.updS_ne E r this]
  | .at s' _ _, h => by
    simp only [SV.noS, Bool.not_eq_true'] at h
    have : s' ≠ s := fun e => by subst e; simp at h
    simp [SV.val, Env.updS_ne E r this]
  | .agg xs, h => by simp only [SV.val, SV.vals_updS E s r xs h]
  | .tup xs, h => by simp only [SV.val, SV.vals_updS E s r xs h]
  | .fn f cap, h => by simp only [SV.val, SV.vals_updS E s r cap h]
  | .gd d want W x, h => by simp only [SV.val, SV.val_updS E s r x h]
  | .v x, _ => by simp [SV.val]
  | .own g off, _ => by simp [SV.val, Env.updS]
  | .gr k, _ => by simp [SV.val, Env.updS]
  | .ltr g i, _ => by simp [SV.val, Env.updS]
  | .row g off len cap, _ => by simp [SV.val, Env.updS]
  | .sub s' _ _, h => by
    simp only [SV.noS, Bool.not_eq_true'] at h
    have : s' ≠ s := fun e => by subst e; simp at h
    simp [SV.val, Env.updS_ne E r this]
theorem SV.vals_updS (E : Env) (s : Nat) (r : RS) : ∀ xs : List SV, SV.noSs s xs = true → SV.vals (E.updS s r) xs = SV.vals E xs
  | [], _ => by simp [SV.vals]
  | x :: xs, h => by
    simp only [SV.noSs, Bool.and_eq_true] at h
    simp only [SV.vals, SV.val_updS E s r x h.1, SV.vals_updS E s r xs h.2]
end
/-- one slice more that is read -/
theorem St.addrd (S : St X st E a w) (k : Nat) (q : Q) (r : RS) (hr : RdAt w q r) (hR : ∀ b off, 0 < q.len → r.A = some ⟨b, off, none⟩ → Apart X.w0.heap.size X.R (look st.m.blks) st.m.grs E b) (hn : (noSS k st.slots && noSB k st.m.blks && Nat.ble 1000 k) = true) :
    St X ⟨st.slots, { st.m with rds := (k, q) :: st.m.rds }⟩ (E.updS k r) a w := by
  simp only [Bool.and_eq_true] at hn
  obtain ⟨hn, hs⟩ := hn
  have hs := Nat.le_of_ble_eq_true hs
  refine ⟨fun t sv ht => ?_, S.size, S.defers, S.kept, ⟨fun g t cs hx => ?_, fun j q' hq => ?_, S.mem.gr, S.mem.one⟩,
    ⟨S.sep.base, S.sep.inj, S.sep.ginj, S.sep.mix, fun j q' b off hq hl hA => ?_, S.sep.held⟩, S.pin.1, fun j hj => (Env.updS_ne E _ (by omega)).trans (S.pin.2.1 j hj), S.pin.2.2⟩
  · rw [SV.val_updS E k r sv (noSS_ok hn.1 t sv ht)]
    exact S.slot t sv ht
  · rw [SV.vals_updS E k r cs (noSB_ok hn.2 g t cs hx)]
    exact S.mem.blk g t cs hx
  · rcases look_cases hq with ⟨rfl, rfl⟩ | ⟨hne, h2⟩
    · rw [Env.updS_same]; exact hr
    · rw [Env.updS_ne E _ (fun e => hne e.symm)]
      exact S.mem.rd j q' h2
  · rcases look_cases hq with ⟨rfl, rfl⟩ | ⟨hne, h2⟩
    · rw [Env.updS_same] at hA
      exact hR b off hl hA
    · rw [Env.updS_ne E _ (fun e => hne e.symm)] at hA
      exact S.sep.rd j q' b off h2 hl hA
/-- a block of the call's own becomes a row that grows -/
theorem St.rowgr (S : St X st E a w) (g k : Nat) {ty : TypeId} {cs : List SV} (hg : look st.m.blks g = some (.blk ty cs)) (q : GQ) (V : Value) (hV : V.ownBlock = some (E.ρ g)) (hG : GrAt w 0 q V) (hk : look st.m.grs k = none) (ks gs : List Nat) (hno : gs.all (fun j => !Nat.beq j g) = true) :
    St X ⟨subSlots k (E.gr k) (pickL ks st.slots), { st.m with blks := subBlks k (E.gr k) (pickL gs st.m.blks), grs := (k, q) :: st.m.grs }⟩ (E.updG k V) a w := by
  have hin : ∀ j y, look (pickL gs st.m.blks) j = some y → look st.m.blks j = some y ∧ j ≠ g := fun j y hj => by
    refine ⟨pickL_sub _ _ _ _ hj, fun e => ?_⟩
    subst e
    have : ∀ (gs : List Nat), gs.all (fun i => !Nat.beq i j) = true → look (pickL gs st.m.blks) j = none := fun gs => by
      induction gs with
      | nil => intro _; rfl
      | cons i is ih =>
        intro h
        simp only [List.all_cons, Bool.and_eq_true, Bool.not_eq_true'] at h
        simp only [pickL]
        have hne : i ≠ j := fun e => by subst e; simp at h
        split
        · rw [look_ne hne]; exact ih h.2
        · exact ih h.2
    rw [this gs hno] at hj
    cases hj
  have hB : ∀ {j t c}, (look (pickL gs st.m.blks) j).map (BE.subG k (E.gr k)) = some (.blk t c) → ∃ c', (look st.m.blks j = some (.blk t c') ∧ j ≠ g) ∧ c = SV.subGs k (E.gr k) c' := fun hx => by
    obtain ⟨c', h1, h2⟩ := BE.subG_blk hx
    exact ⟨c', hin _ _ h1, h2⟩
  have hgk : ∀ j y, look ((k, q) :: st.m.grs) j = some y → (j = k ∧ y = q) ∨ (j ≠ k ∧ look st.m.grs j = some y) := fun j y hj => by
    rcases look_cases hj with ⟨h1, h2⟩ | ⟨h1, h2⟩
    · exact .inl ⟨h1.symm, h2.symm⟩
    · exact .inr ⟨fun e => h1 e.symm, h2⟩
  have ho : ∀ b, OwnB (fun j => (look (pickL gs st.m.blks) j).map (BE.subG k (E.gr k))) ((k, q) :: st.m.grs) (E.updG k V) b → OwnB (look st.m.blks) st.m.grs E b := by
    rintro b (⟨j, t, c, hx, e⟩ | ⟨j, y, hy, e⟩)
    · obtain ⟨c', ⟨h1, _⟩, _⟩ := hB hx
      exact .inl ⟨j, t, c', h1, e⟩
    · rcases hgk j y hy with ⟨rfl, rfl⟩ | ⟨hne, h2⟩
      · rw [Env.updG_same, hV] at e
        exact .inl ⟨g, ty, cs, hg, by simpa using e⟩
      · rw [Env.updG_ne E V hne] at e
        exact .inr ⟨j, y, h2, e⟩
  have hap : ∀ b, Apart X.w0.heap.size X.R (look st.m.blks) st.m.grs E b → Apart X.w0.heap.size X.R (fun j => (look (pickL gs st.m.blks) j).map (BE.subG k (E.gr k))) ((k, q) :: st.m.grs) (E.updG k V) b := fun b hb => ⟨fun h => hb.1 (ho b h), hb.2⟩
  unfold St
  simp only
  rw [show look (subSlots k (E.gr k) (pickL ks st.slots)) = fun t => (look (pickL ks st.slots) t).map (SV.subG k (E.gr k)) from funext (look_subSlots _ _ _), show look (subBlks k (E.gr k) (pickL gs st.m.blks)) = fun j => (look (pickL gs st.m.blks) j).map (BE.subG k (E.gr k)) from funext (look_subBlks _ _ _)]
  refine ⟨fun t sv ht => ?_, S.size, S.defers, S.kept, ⟨fun j t c hx => ?_, S.mem.rd, fun j y hy => ?_, S.mem.one⟩,
    ⟨fun j t c hx => ?_, fun j j' t t' c c' hx hy e => ?_, ⟨fun j j' x y b hx hy h1 h2 => ?_, fun j x b hx h1 => ?_⟩, fun j i t c y hx hy => ?_, fun s q' b off hq hl hA => hap b (S.sep.rd s q' b off hq hl hA), fun j Φ hx => (S.sep.held j Φ (hin _ _ (BE.subG_held hx)).1).mono fun b _ => hap b⟩, S.pin⟩
  · cases hsf : look (pickL ks st.slots) t with
    | none => simp [hsf] at ht
    | some x =>
      simp only [hsf, Option.map_some, Option.some.injEq] at ht
      subst ht
      rw [SV.val_subG]
      exact S.slot t x (pickL_sub _ _ _ _ hsf)
  · obtain ⟨c', ⟨h1, _⟩, rfl⟩ := hB hx
    rw [SV.vals_subG]
    exact S.mem.blk j t c' h1
  · rcases hgk j y hy with ⟨rfl, rfl⟩ | ⟨hne, h2⟩
    · rw [Env.updG_same]; exact hG
    · rw [Env.updG_ne E V hne]; exact S.mem.gr j y h2
  · obtain ⟨c', ⟨h1, _⟩, _⟩ := hB hx
    exact S.sep.base j t c' h1
  · obtain ⟨c1, ⟨h1, _⟩, _⟩ := hB hx
    obtain ⟨c2, ⟨h2, _⟩, _⟩ := hB hy
    exact S.sep.inj j j' _ _ _ _ h1 h2 e
  · rcases hgk j x hx with ⟨rfl, rfl⟩ | ⟨n1, x1⟩ <;> rcases hgk j' y hy with ⟨rfl, rfl⟩ | ⟨n2, x2⟩
    · rfl
    · rw [Env.updG_same, hV] at h1
      rw [Env.updG_ne E V n2] at h2
      simp only [Option.some.injEq] at h1
      subst h1
      exact absurd h2 (S.sep.mix g j' ty cs y hg x2)
    · rw [Env.updG_same, hV] at h2
      rw [Env.updG_ne E V n1] at h1
      simp only [Option.some.injEq] at h2
      subst h2
      exact absurd h1 (S.sep.mix g j ty cs x hg x1)
    · rw [Env.updG_ne E V n1] at h1
      rw [Env.updG_ne E V n2] at h2
      exact S.sep.ginj.1 j j' x y b x1 x2 h1 h2
  · rcases hgk j x hx with ⟨rfl, rfl⟩ | ⟨n1, x1⟩
    · rw [Env.updG_same, hV] at h1
      simp only [Option.some.injEq] at h1
      subst h1
      exact S.sep.base g ty cs hg
    · rw [Env.updG_ne E V n1] at h1
      exact S.sep.ginj.2 j x b x1 h1
  · obtain ⟨c', ⟨h1, hne⟩, _⟩ := hB hx
    rcases hgk i y hy with ⟨rfl, rfl⟩ | ⟨n1, x1⟩
    · rw [Env.updG_same, hV]
      intro e
      simp only [Option.some.injEq] at e
      exact hne (S.sep.inj j g _ _ _ _ h1 hg e.symm)
    · rw [Env.updG_ne E V n1]
      exact S.sep.mix j i t c' y h1 x1
/-- a literal row of the call's own, as a slice that is read -/
theorem St.rowrd (S : St X st E a w) (hC : X.C = noC) (g k : Nat) {ty : TypeId} {cs : List SV} (hg : look st.m.blks g = some (.blk ty cs)) (ks gs : List Nat) (hno : gs.all (fun j => !Nat.beq j g) = true) (q : Q) (len cap : Nat) (h1 : q.len = len) (h2 : len ≤ cap) (hc : ∀ i, i < q.len → ∀ j v, (q.get i)[j]? = some v → (SV.vals E cs)[i * q.n + j]? = some v)
    (hn : (noSS k (pickL ks st.slots) && noSB k (pickL gs st.m.blks) && Nat.ble 1000 k) = true) : St X ⟨pickL ks st.slots, { st.m with blks := pickL gs st.m.blks, rds := (k, q) :: st.m.rds }⟩ (E.updS k ⟨some ⟨E.ρ g, 0, none⟩, len, cap, q.n⟩) a w := by
  have S1 := S.pick ks gs _ rfl
  have hblk := S.mem.blk g ty cs hg
  refine S1.addrd k q ⟨some ⟨E.ρ g, 0, none⟩, len, cap, q.n⟩ ⟨h1.symm, rfl, by dsimp only; omega, fun hlt => ⟨E.ρ g, 0, rfl, hblk.lt, fun i hi j v hv => ?_⟩⟩ (fun b off hlt hA => ?_) hn
  · rw [hblk.cell, Nat.zero_add]
    simpa using hc i hi j v hv
  · simp only [Option.some.injEq, Addr.mk.injEq] at hA
    obtain ⟨rfl, _⟩ := hA
    refine ⟨fun ho => ?_, ?_⟩
    · rcases ho with ⟨j, t, c, hx, e⟩ | ⟨j, y, hy, e⟩
      · have hj : look st.m.blks j = some (.blk t c) := pickL_sub _ _ _ _ hx
        have : j = g := S.sep.inj j g _ _ _ _ hj hg e
        subst this
        have hnone : ∀ (gs : List Nat), gs.all (fun i => !Nat.beq i j) = true → look (pickL gs st.m.blks) j = none := fun gs => by
          induction gs with
          | nil => intro _; rfl
          | cons i is ih =>
            intro h
            simp only [List.all_cons, Bool.and_eq_true, Bool.not_eq_true'] at h
            simp only [pickL]
            have hne : i ≠ j := fun e => by subst e; simp at h
            split
            · rw [look_ne hne]; exact ih h.2
            · exact ih h.2
        have hx' : look (pickL gs st.m.blks) j = some (.blk t c) := hx
        rw [hnone gs hno] at hx'
        cases hx'
      · exact S.sep.mix g j ty cs y hg hy e
    · rcases S.sep.base g ty cs hg with h | h
      · exact .inl h
      · rw [hC] at h; exact h.elim
/-- a literal row, as one that grows -/
theorem St.litgr (S : St X st E a w) {g : Nat} {ty : TypeId} {cs : List SV} (hg : look st.m.blks g = some (.blk ty cs)) (n len : Nat) (xs : List Value) (hcs : cs.length = len * n) (hm : len ≤ 4611686018427387904) (hx : SV.vals E cs = xs) : GrAt w 0 ⟨ty, n, len, xs⟩ (.slice (some ⟨E.ρ g, 0, none⟩) len len) := by
  have hb := S.mem.blk g ty cs hg
  have hl : (SV.vals E cs).length = len * n := by rw [vals_length, hcs]
  subst hx
  exact ⟨hl, .inr ⟨E.ρ g, len, (SV.vals E cs).toArray, rfl, Nat.zero_le _, hb, Nat.le_refl _, by simp only [maxLen]; omega, by simp [hl], by simp [List.take_of_length_le, hl]⟩⟩
theorem sub_getD {α : Type} [Inhabited α] (M : List α) (a n i : Nat) (h : i < ((M.drop a).take n).length) : ((M.drop a).take n).getD i default = M.getD (a + i) default := by
  have h2 : i < n := by
    simp only [List.length_take] at h
    omega
  simp only [List.getD_eq_getElem?_getD, List.getElem?_take, h2, if_true, List.getElem?_drop]
theorem sub_len {α : Type} (M : List α) (a b : Nat) (h : b ≤ M.length) : ((M.drop a).take (b - a)).length = b - a := by
  simp only [List.length_take, List.length_drop]
  omega
/-- a part of a slice that is read, read -/
theorem RdAt.sub {q q' : Q} {r : RS} (h : RdAt w q r) (a b : Nat) (hab : a ≤ b) (hb : b ≤ q.len) (e1 : q'.n = q.n) (e2 : q'.len = b - a) (e3 : ∀ i, i < q'.len → q'.get i = q.get (a + i)) :
    RdAt w q' ⟨if r.cap = a then r.A else r.A.map (·.add (a * r.n)), b - a, r.cap - a, r.n⟩ := by
  obtain ⟨r1, r2, r3, r4⟩ := h
  refine ⟨e2.symm, r2.trans e1.symm, by dsimp only; omega, fun hlt => ?_⟩
  obtain ⟨bl, off, hA, hbl, hc⟩ := r4 (by omega)
  refine ⟨bl, off + a * q.n, ?_, hbl, fun i hi j v hv => ?_⟩
  · dsimp only
    rw [if_neg (by omega), hA, r2]
    simp [add_plain']
  · rw [e3 i hi] at hv
    have := hc (a + i) (by omega) j v hv
    rw [e1, show off + a * q.n + (i * q.n + j) = off + ((a + i) * q.n + j) by rw [Nat.add_mul]; omega]
    exact this
theorem sub_blk {q : Q} {r : RS} (h : RdAt w q r) {a b bl off : Nat} (hlt : a < b) (hb : b ≤ q.len) (hA : (if r.cap = a then r.A else r.A.map (·.add (a * r.n))) = some ⟨bl, off, none⟩) : ∃ off', r.A = some ⟨bl, off', none⟩ := by
  obtain ⟨r1, r2, r3, r4⟩ := h
  obtain ⟨b', off', hA', _⟩ := r4 (by omega)
  rw [if_neg (by omega), hA'] at hA
  have e : b' = bl := by simpa [add_plain'] using congrArg (fun o => (o.map Addr.block).getD 0) hA
  exact ⟨off', e ▸ hA'⟩
/-- a part of a slice has a number of its own -/
theorem St.subrd (S : St X st E a w) (s k na nb : Nat) (q q' : Q) (hq : look st.m.rds s = some q) (hab : na ≤ nb) (hb : nb ≤ q.len) (e1 : q'.n = q.n) (e2 : q'.len = nb - na) (e3 : ∀ i, i < q'.len → q'.get i = q.get (na + i)) (hn : (noSS k st.slots && noSB k st.m.blks && Nat.ble 1000 k) = true) :
    St X ⟨st.slots, { st.m with rds := (k, q') :: st.m.rds }⟩ (E.updS k ⟨if (E.sl s).cap = na then (E.sl s).A else (E.sl s).A.map (·.add (na * (E.sl s).n)), nb - na, (E.sl s).cap - na, (E.sl s).n⟩) a w :=
  S.addrd k q' _ ((S.mem.rd s q hq).sub na nb hab hb e1 e2 e3) (fun b off hlt hA => by
    obtain ⟨off', hA'⟩ := sub_blk (S.mem.rd s q hq) (show na < nb by omega) hb hA
    exact S.sep.rd s q b off' hq (by omega) hA') hn
/-- a part of a slice, handed over -/
theorem Mem.subM {B : Nat} {R : Nat → Prop} {m : MState} {s : Nat} {q : Q} (h : Mem B R m E w) (hq : look m.rds s = some q) (na nb len : Nat) (get : Nat → List Value) (hab : na ≤ nb) (hb : nb ≤ q.len) (e2 : len = nb - na) (e3 : ∀ i, i < len → get i = q.get (na + i)) :
    ∃ A cap, subV (E.sl s) na nb = .slice A len cap ∧ len ≤ cap ∧ SlAt w A len q.n get ∧ InR R A len := by
  have h1 := (h.rd s q hq).sub (q' := ⟨len, q.n, get⟩) na nb hab hb rfl e2 e3
  refine ⟨_, _, by unfold subV; rw [← e2], h1.2.2.1, h1.2.2.2, fun b off hl hA => ?_⟩
  obtain ⟨off', hA'⟩ := sub_blk (h.rd s q hq) (show na < nb by omega) hb hA
  exact h.rdR s q b off' hq (by omega) hA'
/-- the cells of a list, one after the other, found by their place -/
theorem flat_find {α : Type} [Inhabited α] (f : α → List Value) (n : Nat) (hf : ∀ x, (f x).length = n) : ∀ (l : List α) (j : Nat) (v : Value), (l.flatMap f)[j]? = some v → ∃ i r, i < l.length ∧ j = i * n + r ∧ (f (l.getD i default))[r]? = some v
  | [], j, v, h => by simp at h
  | x :: xs, j, v, h => by
    rw [List.flatMap_cons] at h
    by_cases hj : j < n
    · rw [List.getElem?_append_left (by rw [hf x]; exact hj)] at h
      exact ⟨0, j, by simp, by omega, h⟩
    · rw [List.getElem?_append_right (by rw [hf x]; omega), hf x] at h
      obtain ⟨i, r, h1, h2, h3⟩ := flat_find f n hf xs (j - n) v h
      exact ⟨i + 1, r, by simpa using h1, by rw [Nat.add_mul]; omega, h3⟩
/-- append of a slice of no length, wherever it lies -/
theorem append_nothing {v : Value} {n size c : Nat} {xs : List Value} {t ty e : TypeId} {i : TypeInfo} (hu : P.underlying t = some (.slice e)) (hi : P.info? e = some i) (hG : w.ownsRow 0 e size v n xs) : (Builtin.append_ #[t, t] ty #[v, .slice none 0 c]).run P w = .ok v w := by
  obtain ⟨_, h | ⟨g, cap, cur, h, _, _, hc, _⟩⟩ := hG
  · obtain ⟨h1, h2⟩ := h
    subst h1
    simp [Builtin.append_, run_underlying hu, sizeOf, typeInfo, hi, Builtin.lenOf, Builtin.firstCells]
  · subst h
    simp [Builtin.append_, run_underlying hu, sizeOf, typeInfo, hi, Builtin.lenOf, Builtin.firstCells, hc, storeCells]
/-- append of a slice that is read to a row of the call's own -/
theorem sym_appendS {lay : Lay} (hl : LayOK P lay) {ops l r : List Oper} {o : Oper} {Po : Exit → Act → World → Prop} (hL : l = o :: r) (x y : Operand) (t : TypeId) (ho : o.op = .call { callee := .builtin .append, args := #[x, y], argTypes := #[t, t] }) (hgd : o.guard = none)
    (S : St X st E a w) (k s : Nat) (q : GQ) (qs : Q) (d dt : TyD) (news : List Value) (hx : opnd st.slots x = some (.gr k)) (hq : look st.m.grs k = some q) (hy : opnd st.slots y = some (.sl s)) (hs : look st.m.rds s = some qs)
    (hdt : look lay t = some dt) (hsl : dt.k = .sli q.ty q.n) (hd : look lay q.ty = some d) (hn : d.n = q.n) (hqn : qs.n = q.n) (hpos : 0 < q.n) (hnl : news.length = qs.len * q.n) (hget : ∀ j v, news[j]? = some v → ∃ i r, i < qs.len ∧ j = i * q.n + r ∧ (qs.get i)[r]? = some v) (hone : ∀ v ∈ news, v.oneCell' = true) (hdn : ∀ e, o.dst = some e → e < X.n)
    (q' : GQ) (e1 : q'.ty = q.ty) (e2 : q'.n = q.n) (e3 : q'.len = q.len + qs.len) (e4 : q'.xs = q.xs ++ news) (hb1 : q.len + qs.len ≤ 4611686018427387904) (hb2 : (q.len + qs.len) * d.by' ≤ 140737488355328)
    (kk : ∀ v0 E' a' w', St X { st.setgr k v0 q' with slots := match o.dst with | some d => (d, .gr k) :: (st.setgr k v0 q').slots | none => (st.setgr k v0 q').slots } E' a' w' → wpList P ops.toArray Po r a' w') : wpList P ops.toArray Po l a w := by
  subst hL
  have ev : ∀ z sv, opnd st.slots z = some sv → a.eval z = sv.val E := fun z sv hz => by
    cases z with
    | tmp t => simp only [opnd] at hz; have := S.slot t sv hz; simp [Act.eval, this]
    | const v => simp [opnd] at hz; subst hz; rfl
    | global g => simp [opnd] at hz; subst hz; rfl
    | func f => simp [opnd] at hz; subst hz; rfl
  obtain ⟨u, hu, hmm⟩ := (hl t dt hdt).under
  rw [hsl] at hmm
  obtain ⟨rfl, hkn, hes⟩ := hmm
  obtain ⟨_, i, hi, his, z, hz, hzc⟩ := (hl q.ty d hd).size
  have hby : i.bytes = d.by' := by have := (hl q.ty d hd).bytes; simpa [Program.bytesOf, hi] using this
  have hzs : z.cells.size = q.n := by
    have := (hl q.ty d hd).zlen
    rw [← hn, ← this, ← hzc]
    simp
  have hG := S.mem.gr k q hq
  obtain ⟨r1, r2, r3, r4⟩ := S.mem.rd s qs hs
  have hyv : a.eval y = .slice (E.sl s).A qs.len (E.sl s).cap := by
    rw [ev y _ hy]
    simp only [SV.val, r1]
  -- what comes of it
  have fin : ∀ v' w', GrAt w' 0 q' v' → w.grownBy w' (E.gr k).ownBlock → (v'.ownBlock = (E.gr k).ownBlock ∨ v'.ownBlock = some w.heap.size) → wpList P ops.toArray Po r (a.put o.dst v') w' := fun v' w' hown hgrow hat => by
    have S' := S.setgr k q' (row := (E.gr k).ownBlock) hgrow (fun b hb => ⟨q, hq, hb⟩) hown (fun b hb => by
      rcases hat with h1 | h1
      · rw [h1] at hb; exact .inl hb
      · rw [h1] at hb; simp only [Option.some.injEq] at hb; omega)
    have S2 := StF.putD S' hdn (.gr k)
    simp only [SV.val, Env.updG_same] at S2
    refine kk (E.gr k) (E.updG k v') (a.put o.dst v') w' ?_
    unfold St
    cases hdst : o.dst with
    | none => rw [hdst] at S2; exact S2
    | some e =>
      rw [hdst] at S2
      simp only
      rw [look_upd]
      exact S2
  have hg0 : w.grownBy w (E.gr k).ownBlock := ⟨rfl, rfl, rfl, Nat.le_refl _, fun _ _ _ => rfl⟩
  cases hA : (E.sl s).A with
  | none =>
    have h0 : qs.len = 0 := by
      by_cases h : 0 < qs.len
      · obtain ⟨b, off, h1, _⟩ := r4 h
        rw [hA] at h1; cases h1
      · omega
    have hnil : news = [] := by
      have := hnl
      rw [h0, Nat.zero_mul] at this
      exact List.eq_nil_of_length_eq_zero this
    have hown : GrAt w 0 q' (E.gr k) := by
      unfold GrAt
      rw [e1, e2, e3, e4, hnil, h0, List.append_nil, Nat.add_zero]
      exact hG
    rw [hA, h0] at hyv
    refine wpList_plain hgd fun K hK => ?_
    unfold Oper.wp
    have hrun := append_nothing (P := P) (w := w) (ty := o.type) (c := (E.sl s).cap) hu hi hG
    simp only [execOp, ho, resolve, invoke, builtin, Sem.run_bind, Sem.run_pure, Result.andThen_ok, List.map_toArray, List.map_cons, List.map_nil, ev x _ hx, hyv, hrun, SV.val]
    exact hK _ _ (fin _ _ hown hg0 (.inl rfl))
  | some ad =>
    rw [hA] at hyv
    have hcell : ∀ j u, news[j]? = some u → w.cell? (ad.add j) = some u := fun j v hv => by
      obtain ⟨i, r, h1, h2, h3⟩ := hget j v hv
      obtain ⟨b, off, h4, _, h5⟩ := r4 (by omega)
      rw [hA] at h4
      simp only [Option.some.injEq] at h4
      subst h4
      rw [add_plain', h2]
      have := h5 i h1 r v h3
      rw [hqn] at this
      exact this
    refine wpList_append_own_at w hgd x y t ho 0 q.ty i z q.n d.by' hu hi hz (his.trans hn) hby hzs hpos (E.gr k) q.len q.xs (ev x _ hx) hG ad qs.len (E.sl s).cap news hyv hnl hcell hone (by simp only [maxLen]; omega) hb2 (Nat.zero_le _) ?_
    intro v' w' hown hgrow _ hat
    exact fin v' w' (by unfold GrAt; rw [e1, e2, e3, e4]; exact hown) hgrow hat
end Go.Proofs.Ytlcccomdijdkaaa
