/- Regions in whatever order. -/
import Derived.Test.YtlcccomdijdkaaaSyI
namespace Go.Proofs.Ytlcccomdijdkaaa
open Go.RowKit

variable {P : Program} {X : Ctx} {E : Env} {a : Act} {w : World}

def nthN : List Nat → Nat → Nat
  | [], _ => 0
  | x :: _, 0 => x
  | _ :: r, i + 1 => nthN r i
def edgesM (ms : List Nat) : List Edge → Nat
  | [] => 0
  | e :: r => bif Region.binds .any e then Nat.lor (Nat.lor (Nat.shiftLeft 1 e.on) (nthN ms e.on)) (edgesM ms r) else edgesM ms r
/-- of each operation: which ones surely come before it -/
def masks (ms : List Nat) : List Oper → List Nat
  | [] => ms
  | o :: r => masks (ms ++ [edgesM ms o.after.toList]) r
def edgesB (i : Nat) : List Edge → Bool
  | [] => true
  | e :: r => (!Region.binds .any e || Nat.blt e.on i) && edgesB i r
def edgesAll : Nat → List Oper → Bool
  | _, [] => true
  | i, o :: r => edgesB i o.after.toList && edgesAll (i + 1) r
def memN (x : Nat) (l : List Nat) : Bool := l.any (Nat.beq x)
def ghostOf (x : TI) : Option Nat := match x.blk with | some (g, _) => some g | none => none
def memO (x : Option Nat) (l : List Nat) : Bool := match x with | some d => memN d l | none => false
def eqO (x y : Option Nat) : Bool := match x, y with | some a, some b => Nat.beq a b | _, _ => false
def names (x : TI) (g : Nat) : Bool := !x.sv.free g || (match x.blk with | some (_, y) => !y.free g | none => false)
structure FP where
  dst : Option Nat
  look : List Nat
  g : Option Nat
  tch : List Nat
  new : Bool
def fpOf (ops : Array Oper) (t : IT) : FP := ⟨t.x.dst, t.o.looksAt ops, ghostOf t.x, touches (effS ops.toList t.st t.o t.h) t.h t.o.op, t.x.new⟩
/-- i is ahead of j: they have nothing to do with one another, or i surely comes before j -/
def pairB (mj : Nat) (i : Nat) (fi fj : FP) (xi xj : IT) : Bool :=
  (Nat.testBit mj i || !(eqO fi.dst fj.dst || memO fi.dst fj.look || memO fj.dst fi.look || eqO fi.g fj.g || memO fi.g fj.tch || memO fj.g fi.tch || (match fi.new, fi.g with | true, some g => names xj.x g | _, _ => false))) &&
  !(match fj.new, fj.g with | true, some g => names xi.x g | _, _ => false)
def pairsB (mj : Nat) (fj : FP) (xj : IT) : Nat → List (FP × IT) → Bool
  | _, [] => true
  | i, (fi, xi) :: r => pairB mj i fi fj xi xj && pairsB mj fj xj (i + 1) r
def allPairs (ms : List Nat) : Nat → List (FP × IT) → List (FP × IT) → Bool
  | _, _, [] => true
  | j, done, x :: r => pairsB (nthN ms j) x.1 x.2 0 done && allPairs ms (j + 1) (done ++ [x]) r
def initB (st : SState) : List IT → Bool
  | [] => true
  | t :: r => (match t.x.new, ghostOf t.x with | true, some g => freshS g st.slots && freshBl g st.m.blks | _, _ => true) && initB st r
theorem initB_ok {st : SState} : ∀ {l : List IT}, initB st l = true → ∀ t ∈ l, t.x.new = true → ∀ g, ghostOf t.x = some g → freshS g st.slots = true ∧ freshBl g st.m.blks = true
  | [], _, t, ht, _, _, _ => by cases ht
  | u :: r, h, t, ht, hn, g, hg => by
    simp only [initB, Bool.and_eq_true] at h
    rcases List.mem_cons.1 ht with rfl | ht
    · have := h.1
      simp only [hn, hg, Bool.and_eq_true] at this
      exact this
    · exact initB_ok h.2 t ht hn g hg
def orderB (lay : Lay) (ops : List Oper) (hs : List (Nat × Hint)) (st : SState) : Bool := match evalOps lay ops hs 0 ops st with
  | some (tr, _, _) => edgesAll 0 ops && initB st tr && allPairs (masks [] ops) 0 [] (tr.map fun t => (fpOf ops.toArray t, t))
  | none => false

/-! what the check says -/
theorem nthN_get (l : List Nat) (i : Nat) : nthN l i = l.getD i 0 := by
  induction l generalizing i with
  | nil => simp [nthN]
  | cons x r ih => cases i <;> simp [nthN, ih]
theorem edgesM_bit {ms : List Nat} : ∀ {es : List Edge} {i : Nat}, (edgesM ms es).testBit i = true → ∃ e ∈ es, Region.binds .any e = true ∧ (e.on = i ∨ (nthN ms e.on).testBit i = true)
  | [], i, h => by simp [edgesM] at h
  | e :: r, i, h => by
    simp only [edgesM] at h
    cases hb : Region.binds .any e with
    | false =>
      rw [hb] at h
      obtain ⟨e', h1, h2⟩ := edgesM_bit (es := r) h
      exact ⟨e', List.mem_cons_of_mem _ h1, h2⟩
    | true =>
      rw [hb] at h
      simp only [cond_true] at h
      have h' : ((1 <<< e.on ||| nthN ms e.on) ||| edgesM ms r).testBit i = true := h
      rw [Nat.testBit_or, Nat.testBit_or] at h'
      simp only [Bool.or_eq_true] at h'
      rcases h' with (h' | h') | h'
      · refine ⟨e, List.mem_cons_self, hb, .inl ?_⟩
        rw [Nat.testBit_shiftLeft] at h'
        simp only [Bool.and_eq_true, decide_eq_true_eq] at h'
        obtain ⟨h1, h2⟩ := h'
        have : i - e.on = 0 := by
          rcases Nat.eq_zero_or_pos (i - e.on) with h3 | h3
          · exact h3
          · have : (1 : Nat).testBit (i - e.on) = false := Nat.testBit_lt_two_pow (by have := Nat.one_lt_two_pow (show i - e.on ≠ 0 by omega); omega)
            rw [this] at h2
            cases h2
        omega
      · exact ⟨e, List.mem_cons_self, hb, .inr h'⟩
      · obtain ⟨e', h1, h2⟩ := edgesM_bit (es := r) h'
        exact ⟨e', List.mem_cons_of_mem _ h1, h2⟩
theorem masks_get : ∀ (l : List Oper) (ms : List Nat) (k : Nat), ms.length ≤ k → (masks ms l).getD k 0 = match l[k - ms.length]? with | some o => edgesM ((masks ms l).take k) o.after.toList | none => 0
  | [], ms, k, h => by
    simp only [masks]
    simp [List.getD, List.getElem?_eq_none h]
  | o :: r, ms, k, h => by
    simp only [masks]
    have pre : ∀ (l : List Oper) (ms : List Nat), ∃ t, masks ms l = ms ++ t := by
      intro l
      induction l with
      | nil => intro ms; exact ⟨[], by simp [masks]⟩
      | cons o r ih => intro ms; obtain ⟨t, ht⟩ := ih (ms ++ [edgesM ms o.after.toList]); exact ⟨[edgesM ms o.after.toList] ++ t, by simp [masks, ht]⟩
    by_cases hk : k = ms.length
    · subst hk
      obtain ⟨t, ht⟩ := pre r (ms ++ [edgesM ms o.after.toList])
      simp [ht, List.getD]
    · have := masks_get r (ms ++ [edgesM ms o.after.toList]) k (by simp; omega)
      rw [this]
      simp only [List.length_append, List.length_cons, List.length_nil]
      rw [show k - ms.length = (k - (ms.length + (0 + 1))) + 1 by omega, List.getElem?_cons_succ]
theorem edgesB_ok {i : Nat} : ∀ {es : List Edge}, edgesB i es = true → ∀ e ∈ es, Region.binds .any e = true → e.on < i
  | [], _, e, he, _ => by cases he
  | e' :: r, h, e, he, hb => by
    simp only [edgesB, Bool.and_eq_true, Bool.or_eq_true, Bool.not_eq_true'] at h
    rcases List.mem_cons.1 he with rfl | he
    · rcases h.1 with h1 | h1
      · rw [hb] at h1; cases h1
      · exact Nat.lt_of_succ_le (Nat.le_of_ble_eq_true h1)
    · exact edgesB_ok h.2 e he hb
theorem edgesAll_ok : ∀ {l : List Oper} {k : Nat}, edgesAll k l = true → ∀ j o, l[j]? = some o → edgesB (k + j) o.after.toList = true
  | [], k, _, j, o, hj => by simp at hj
  | o' :: r, k, h, j, o, hj => by
    simp only [edgesAll, Bool.and_eq_true] at h
    cases j with
    | zero => simp at hj; subst hj; exact h.1
    | succ j =>
      have := edgesAll_ok h.2 j o (by simpa using hj)
      rwa [show k + (j + 1) = k + 1 + j by omega]
/-- what is surely before j has been done, if j can be done now, or has been -/
theorem before_ok {ops : List Oper} (he : edgesAll 0 ops = true) {L : Nat → Bool} (hcl : ∀ j o, ops[j]? = some o → L j = true → ∀ e ∈ o.after.toList, Region.binds .any e = true → L e.on = true) :
    ∀ (j : Nat) (o : Oper), ops[j]? = some o → (∀ e ∈ o.after.toList, Region.binds .any e = true → L e.on = true) → ∀ i, (nthN (masks [] ops) j).testBit i = true → L i = true ∧ i < j := by
  intro j
  induction j using Nat.strongRecOn with
  | _ j ih =>
    intro o hj hr i hi
    rw [nthN_get] at hi
    have hm := masks_get ops [] j (Nat.zero_le _)
    simp only [List.length_nil, Nat.sub_zero, hj] at hm
    rw [hm] at hi
    obtain ⟨e, h1, h2, h3⟩ := edgesM_bit hi
    have hlt := edgesB_ok (by have := edgesAll_ok he j o hj; rwa [Nat.zero_add] at this) e h1 h2
    rcases h3 with rfl | h3
    · exact ⟨hr e h1 h2, hlt⟩
    · have hL := hr e h1 h2
      have hk : nthN ((masks [] ops).take j) e.on = nthN (masks [] ops) e.on := by
        rw [nthN_get, nthN_get]
        simp [List.getD, hlt]
      rw [hk] at h3
      have hlen : e.on < ops.length := by have := (List.getElem?_eq_some_iff.1 hj).1; omega
      have ho : ops[e.on]? = some ops[e.on] := by simp [hlen]
      obtain ⟨k1, k2⟩ := ih e.on hlt _ ho (hcl _ _ ho hL) i h3
      exact ⟨k1, by omega⟩

theorem pairsB_ok {mj : Nat} {fj : FP} {xj : IT} : ∀ {l : List (FP × IT)} {k : Nat}, pairsB mj fj xj k l = true → ∀ i f x, l[i]? = some (f, x) → pairB mj (k + i) f fj x xj = true
  | [], k, _, i, f, x, hi => by simp at hi
  | (f', x') :: r, k, h, i, f, x, hi => by
    simp only [pairsB, Bool.and_eq_true] at h
    cases i with
    | zero => simp at hi; obtain ⟨rfl, rfl⟩ := hi; exact h.1
    | succ i =>
      have := pairsB_ok h.2 i f x (by simpa using hi)
      rwa [show k + (i + 1) = k + 1 + i by omega]
theorem allPairs_ok {ms : List Nat} : ∀ {l done : List (FP × IT)} {k : Nat}, done.length = k → allPairs ms k done l = true → ∀ j x, l[j]? = some x → ∀ i y, i < k + j → (done ++ l)[i]? = some y → pairB (nthN ms (k + j)) i y.1 x.1 y.2 x.2 = true
  | [], done, k, _, _, j, x, hj, i, y, _, _ => by simp at hj
  | x' :: r, done, k, hd, h, j, x, hj, i, y, hi, hy => by
    simp only [allPairs, Bool.and_eq_true] at h
    cases j with
    | zero =>
      simp at hj
      subst hj
      rw [List.getElem?_append_left (by omega)] at hy
      have := pairsB_ok h.1 i y.1 y.2 hy
      rwa [Nat.zero_add] at this
    | succ j =>
      have := allPairs_ok (l := r) (done := done ++ [x']) (k := k + 1) (by simp [hd]) h.2 j x (by simpa using hj) i y (by omega) (by simpa using hy)
      rwa [show k + (j + 1) = k + 1 + j by omega]

/-! the state behind any of the operations -/
def slotsL (L : Nat → Bool) : Nat → List IT → (Nat → Option SV) → Nat → Option SV
  | _, [], f => f
  | i, t :: r, f => slotsL L (i + 1) r (if L i = true then putF f t.x.dst t.x.sv else f)
def blksL (L : Nat → Bool) : Nat → List IT → BF → BF
  | _, [], f => f
  | i, t :: r, f => blksL L (i + 1) r (if L i = true then blkF f t.x.blk else f)
theorem putF_at (f : Nat → Option SV) (d : Option Nat) (sv : SV) (t : Nat) : putF f d sv t = if d = some t then some sv else f t := by
  cases d with
  | none => simp [putF]
  | some d => simp only [putF, updF, Option.some.injEq]; by_cases h : t = d <;> simp [h, eq_comm]
theorem blkF_at (f : BF) (b : Option (Nat × BE)) (g : Nat) : blkF f b g = match b with | some (g', y) => if g' = g then some y else f g | none => f g := by
  cases b with
  | none => rfl
  | some b => obtain ⟨g', y⟩ := b; simp only [blkF, updF]; by_cases h : g = g' <;> simp [h, eq_comm]
theorem slotsL_ext {L L' : Nat → Bool} {t : Nat} : ∀ (l : List IT) (i : Nat) (f f' : Nat → Option SV), f t = f' t → (∀ k x, l[k]? = some x → x.x.dst = some t → L (i + k) = L' (i + k)) → slotsL L i l f t = slotsL L' i l f' t
  | [], i, f, f', h, _ => h
  | x :: r, i, f, f', h, hl => by
    refine slotsL_ext r (i + 1) _ _ ?_ (fun k y hy hd => by have := hl (k + 1) y (by simpa using hy) hd; rwa [show i + (k + 1) = i + 1 + k by omega] at this)
    by_cases hd : x.x.dst = some t
    · have := hl 0 x (by simp) hd
      rw [Nat.add_zero] at this
      rw [this]
      split
      · simp [putF_at, hd]
      · exact h
    · split <;> split <;> simp [putF_at, hd, h]
theorem blksL_ext {L L' : Nat → Bool} {g : Nat} : ∀ (l : List IT) (i : Nat) (f f' : BF), f g = f' g → (∀ k x, l[k]? = some x → ghostOf x.x = some g → L (i + k) = L' (i + k)) → blksL L i l f g = blksL L' i l f' g
  | [], i, f, f', h, _ => h
  | x :: r, i, f, f', h, hl => by
    refine blksL_ext r (i + 1) _ _ ?_ (fun k y hy hd => by have := hl (k + 1) y (by simpa using hy) hd; rwa [show i + (k + 1) = i + 1 + k by omega] at this)
    cases hb : x.x.blk with
    | none => split <;> split <;> simp [blkF, h]
    | some b =>
      obtain ⟨g', y⟩ := b
      by_cases hg : g' = g
      · have := hl 0 x (by simp) (by simp [ghostOf, hb, hg])
        rw [Nat.add_zero] at this
        rw [this]
        split
        · simp [blkF_at, hg]
        · exact h
      · split <;> split <;> simp [blkF_at, hg, h]
theorem slotsL_none : ∀ (l : List IT) (i : Nat) (L : Nat → Bool) (f : Nat → Option SV), (∀ k, i ≤ k → L k = false) → slotsL L i l f = f
  | [], i, L, f, _ => rfl
  | x :: r, i, L, f, h => by
    simp only [slotsL, h i (Nat.le_refl _), Bool.false_eq_true, if_false]
    exact slotsL_none r (i + 1) L f (fun k hk => h k (by omega))
theorem blksL_none : ∀ (l : List IT) (i : Nat) (L : Nat → Bool) (f : BF), (∀ k, i ≤ k → L k = false) → blksL L i l f = f
  | [], i, L, f, _ => rfl
  | x :: r, i, L, f, h => by
    simp only [blksL, h i (Nat.le_refl _), Bool.false_eq_true, if_false]
    exact blksL_none r (i + 1) L f (fun k hk => h k (by omega))
/-- of a slot: it comes from one of the operations that were done, or was there -/
theorem slotsL_from : ∀ (l : List IT) (i : Nat) (L : Nat → Bool) (f : Nat → Option SV) (t : Nat) (sv : SV), slotsL L i l f t = some sv → f t = some sv ∨ ∃ k x, l[k]? = some x ∧ L (i + k) = true ∧ x.x.sv = sv
  | [], i, L, f, t, sv, h => .inl h
  | x :: r, i, L, f, t, sv, h => by
    rcases slotsL_from r (i + 1) L _ t sv h with h1 | ⟨k, y, hy, hL, e⟩
    · split at h1
      · rename_i hL
        rw [putF_at] at h1
        split at h1
        · exact .inr ⟨0, x, by simp, by simpa using hL, by simpa using h1⟩
        · exact .inl h1
      · exact .inl h1
    · exact .inr ⟨k + 1, y, by simpa using hy, by rwa [show i + (k + 1) = i + 1 + k by omega], e⟩
theorem blksL_from : ∀ (l : List IT) (i : Nat) (L : Nat → Bool) (f : BF) (g : Nat) (y : BE), blksL L i l f g = some y → f g = some y ∨ ∃ k x, l[k]? = some x ∧ L (i + k) = true ∧ x.x.blk = some (g, y)
  | [], i, L, f, g, y, h => .inl h
  | x :: r, i, L, f, g, y, h => by
    rcases blksL_from r (i + 1) L _ g y h with h1 | ⟨k, z, hz, hL, e⟩
    · split at h1
      · rename_i hL
        rw [blkF_at] at h1
        split at h1
        · rename_i g' y' hb
          split at h1
          · rename_i hg
            subst hg
            exact .inr ⟨0, x, by simp, by simpa using hL, by rw [hb]; simpa using h1⟩
          · exact .inl h1
        · exact .inl h1
      · exact .inl h1
    · exact .inr ⟨k + 1, z, by simpa using hz, by rwa [show i + (k + 1) = i + 1 + k by omega], e⟩
/-- one more is done -/
theorem slotsL_set {L L' : Nat → Bool} {j : Nat} {xj : IT} (hj : L j = false) (hj' : L' j = true) (hL : ∀ k, k ≠ j → L' k = L k) : ∀ (l : List IT) (i : Nat) (f : Nat → Option SV), i ≤ j → l[j - i]? = some xj →
    (∀ k x, l[k]? = some x → j < i + k → L (i + k) = true → ∀ t, x.x.dst = some t → xj.x.dst ≠ some t) → slotsL L' i l f = putF (slotsL L i l f) xj.x.dst xj.x.sv
  | [], i, f, _, h, _ => by simp at h
  | x :: r, i, f, hij, h, hn => by
    by_cases e : i = j
    · subst e
      simp only [Nat.sub_self, List.getElem?_cons_zero, Option.some.injEq] at h
      subst h
      funext t
      simp only [slotsL, hj, hj', if_true, Bool.false_eq_true, if_false]
      rw [putF_at]
      by_cases ht : x.x.dst = some t
      · rw [if_pos ht]
        have : ∀ (l : List IT) (m : Nat) (f : Nat → Option SV), i < m → (∀ k y, l[k]? = some y → L' (m + k) = true → y.x.dst ≠ some t) → slotsL L' m l f t = f t := by
          intro l
          induction l with
          | nil => intro m f _ _; rfl
          | cons y l ih =>
            intro m f hm hh
            simp only [slotsL]
            rw [ih (m + 1) _ (by omega) (fun k z hz hk => hh (k + 1) z (by simpa using hz) (by rwa [show m + (k + 1) = m + 1 + k by omega]))]
            split
            · rename_i hL'
              rw [putF_at, if_neg (hh 0 y (by simp) (by simpa using hL'))]
            · rfl
        rw [this r (i + 1) _ (by omega) (fun k y hy hk hd => by
          rw [hL _ (by omega)] at hk
          exact hn (k + 1) y (by simpa using hy) (by omega) (by rwa [show i + (k + 1) = i + 1 + k by omega]) t hd ht)]
        simp [putF_at, ht]
      · rw [if_neg ht]
        refine slotsL_ext r (i + 1) _ _ (by simp [putF_at, ht]) (fun k y _ _ => hL _ (by omega))
    · simp only [slotsL]
      rw [hL i e]
      refine slotsL_set hj hj' hL r (i + 1) _ (by omega) (by rw [show j - i = (j - (i + 1)) + 1 by omega] at h; simpa using h) (fun k y hy hk hLk => ?_)
      exact hn (k + 1) y (by simpa using hy) (by omega) (by rwa [show i + (k + 1) = i + 1 + k by omega])
theorem blksL_set {L L' : Nat → Bool} {j : Nat} {xj : IT} (hj : L j = false) (hj' : L' j = true) (hL : ∀ k, k ≠ j → L' k = L k) : ∀ (l : List IT) (i : Nat) (f : BF), i ≤ j → l[j - i]? = some xj →
    (∀ k x, l[k]? = some x → j < i + k → L (i + k) = true → ∀ g, ghostOf x.x = some g → ghostOf xj.x ≠ some g) → blksL L' i l f = blkF (blksL L i l f) xj.x.blk
  | [], i, f, _, h, _ => by simp at h
  | x :: r, i, f, hij, h, hn => by
    by_cases e : i = j
    · subst e
      simp only [Nat.sub_self, List.getElem?_cons_zero, Option.some.injEq] at h
      subst h
      funext t
      simp only [blksL, hj, hj', if_true, Bool.false_eq_true, if_false]
      cases hb : x.x.blk with
      | none => simp only [blkF]; exact blksL_ext r (i + 1) _ _ rfl (fun k y _ _ => hL _ (by omega))
      | some b =>
        obtain ⟨g, y⟩ := b
        by_cases ht : g = t
        · subst ht
          have : ∀ (l : List IT) (m : Nat) (f : BF), i < m → (∀ k y, l[k]? = some y → L' (m + k) = true → ghostOf y.x ≠ some g) → blksL L' m l f g = f g := by
            intro l
            induction l with
            | nil => intro m f _ _; rfl
            | cons z l ih =>
              intro m f hm hh
              simp only [blksL]
              rw [ih (m + 1) _ (by omega) (fun k z hz hk => hh (k + 1) z (by simpa using hz) (by rwa [show m + (k + 1) = m + 1 + k by omega]))]
              split
              · rename_i hL'
                have := hh 0 z (by simp) (by simpa using hL')
                rw [blkF_at]
                cases hz : z.x.blk with
                | none => rfl
                | some b =>
                  obtain ⟨g', y'⟩ := b
                  simp only
                  rw [if_neg (fun e => this (by simp [ghostOf, hz, e]))]
              · rfl
          rw [this r (i + 1) _ (by omega) (fun k y hy hk hd => by
            rw [hL _ (by omega)] at hk
            exact hn (k + 1) y (by simpa using hy) (by omega) (by rwa [show i + (k + 1) = i + 1 + k by omega]) g hd (by simp [ghostOf, hb]))]
          simp [blkF_at]
        · rw [blkF_at]
          simp only [if_neg ht]
          exact blksL_ext r (i + 1) _ _ (by simp [blkF_at, ht]) (fun k y _ _ => hL _ (by omega))
    · simp only [blksL]
      rw [hL i e]
      refine blksL_set hj hj' hL r (i + 1) _ (by omega) (by rw [show j - i = (j - (i + 1)) + 1 by omega] at h; simpa using h) (fun k y hy hk hLk => ?_)
      exact hn (k + 1) y (by simpa using hy) (by omega) (by rwa [show i + (k + 1) = i + 1 + k by omega])
end Go.Proofs.Ytlcccomdijdkaaa
