/- The evaluator is right: what it says of an operation, the operation does. -/
import Derived.Test.YtlcccomdijdkaaaSyB
namespace Go.Proofs.Ytlcccomdijdkaaa
open Go.RowKit

variable {P : Program} {E : Env} {w : World}


theorem add_plain' (b off n : Nat) : (⟨b, off, none⟩ : Addr).add n = ⟨b, off + n, none⟩ := by
  unfold Addr.add; split <;> simp_all
theorem vals_length (xs : List SV) : (SV.vals E xs).length = xs.length := by rw [SV.vals_map]; simp
theorem vals_append (xs ys : List SV) : SV.vals E (xs ++ ys) = SV.vals E xs ++ SV.vals E ys := by simp [SV.vals_map]
theorem vals_get (xs : List SV) (j : Nat) : (SV.vals E xs)[j]? = (xs[j]?).map (SV.val E) := by simp [SV.vals_map]
theorem vals_take (xs : List SV) (j : Nat) : SV.vals E (xs.take j) = (SV.vals E xs).take j := by simp [SV.vals_map, List.map_take]
theorem vals_drop (xs : List SV) (j : Nat) : SV.vals E (xs.drop j) = (SV.vals E xs).drop j := by simp [SV.vals_map, List.map_drop]
theorem vals_v (vs : List Value) : SV.vals E (vs.map SV.v) = vs := by
  rw [SV.vals_map, List.map_map]
  conv => rhs; rw [← List.map_id vs]
  apply List.map_congr_left
  intro x _
  rfl

/-- what grows is a slice, letters are of one cell -/
structure Nice (E : Env) (m : MState) : Prop where
  gr : ∀ k q, look m.grs k = some q → ∃ A n c, E.gr k = .slice A n c
  one : ∀ g i, (E.x g i).oneCell' = true
theorem oneB_ok {m : MState} (hg : Nice E m) {x : SV} (h : oneB m x = true) : (x.val E).oneCell' = true := by
  cases x with
  | v x => exact h
  | agg xs => cases h
  | tup xs => cases h
  | gd d want W x => cases h
  | gr k =>
    simp only [oneB, Option.isSome_iff_exists] at h
    obtain ⟨q, hq⟩ := h
    obtain ⟨A, n, c, e⟩ := hg.gr k q hq
    simp [SV.val, e, Value.oneCell']
  | ltr g i => exact hg.one g i
  | sub s a b => rfl
  | _ => simp [SV.val, Value.oneCell']
theorem cells_one {v : Value} (h : v.oneCell' = true) : v.cells = #[v] := by cases v <;> first | rfl | cases h
theorem cellsSV_ok {m : MState} (hg : Nice E m) {x : SV} {cs : List SV} (h : cellsSV m x = some cs) :
    (x.val E).cells = (SV.vals E cs).toArray ∧ ∀ v ∈ SV.vals E cs, v.oneCell' = true := by
  have one : ∀ y : SV, oneB m y = true → (y.val E).cells = (SV.vals E [y]).toArray ∧ ∀ v ∈ SV.vals E [y], v.oneCell' = true := fun y hy => by
    have := oneB_ok hg hy
    refine ⟨by rw [cells_one this]; simp [SV.vals], fun v hv => ?_⟩
    simp [SV.vals] at hv
    subst hv
    exact this
  cases x with
  | agg xs =>
    simp only [cellsSV] at h
    split at h
    · rename_i ha
      simp only [Option.some.injEq] at h
      subst h
      refine ⟨by simp [SV.val, Value.cells], fun v hv => ?_⟩
      rw [SV.vals_map] at hv
      obtain ⟨y, hy, rfl⟩ := List.mem_map.1 hv
      exact oneB_ok hg (List.all_eq_true.1 ha y hy)
    · cases h
  | _ =>
    simp only [cellsSV] at h
    split at h
    · rename_i ha
      simp only [Option.some.injEq] at h
      subst h
      exact one _ ha
    · cases h

theorem opnds_ok {σ : List (Nat × SV)} {ev : Operand → Value} : ∀ {xs : List Operand} {vs : List SV}, opnds σ xs = some vs → (∀ x ∈ xs, ∀ sv, opnd σ x = some sv → ev x = sv.val E) → xs.map ev = SV.vals E vs
  | [], vs, h, _ => by simp [opnds] at h; subst h; simp [SV.vals]
  | x :: xs, vs, h, hs => by
    simp only [opnds] at h
    cases h1 : opnd σ x with
    | none => rw [h1] at h; simp at h
    | some v =>
      cases h2 : opnds σ xs with
      | none => rw [h1, h2] at h; simp at h
      | some us =>
        rw [h1, h2] at h
        simp at h
        subst h
        simp [SV.vals, hs x (by simp) v h1, opnds_ok h2 (fun y hy => hs y (by simp [hy]))]
theorem opndsP_ok {σ : List (Nat × SV)} {ev : Operand → Value} : ∀ {xs : List (Nat × Operand)} {vs : List (Nat × SV)}, opndsP σ xs = some vs → (∀ x ∈ xs, ∀ sv, opnd σ x.2 = some sv → ev x.2 = sv.val E) → xs.map (fun (i, x) => (i, ev x)) = vs.map (fun (i, v) => (i, v.val E))
  | [], vs, h, _ => by simp [opndsP] at h; subst h; simp
  | (i, x) :: xs, vs, h, hs => by
    simp only [opndsP] at h
    cases h1 : opnd σ x with
    | none => rw [h1] at h; simp at h
    | some v =>
      cases h2 : opndsP σ xs with
      | none => rw [h1, h2] at h; simp at h
      | some us =>
        rw [h1, h2] at h
        simp at h
        subst h
        simp [hs (i, x) (by simp) v h1]
        simpa using opndsP_ok h2 (fun y hy => hs y (by simp [hy]))

theorem partSV_ok {t : TypeId} {d : TyD} {lay : Lay} (hl : LayOK P lay) (hd : look lay t = some d) {xs : List SV} {off : Nat} {v : SV} (h : partSV xs off d.n (isAggT d.k) = some v) :
    (part t (SV.vals E xs).toArray off).run P w = .ok (v.val E) w := by
  have ht := hl t d hd
  unfold part
  simp only [Sem.run_bind, ht.run_agg, Result.andThen_ok]
  cases ha : isAggT d.k with
  | true =>
    rw [ha] at h
    simp only [partSV, Option.some.injEq] at h
    subst h
    simp only [if_true, Sem.run_bind, ht.run_size, Result.andThen_ok]
    have : (SV.vals E xs).toArray.extract off (off + d.n) = (SV.vals E ((xs.drop off).take d.n)).toArray := by
      apply Array.ext'
      simp [vals_take, vals_drop, List.take_drop]
    rw [this]
    rfl
  | false =>
    rw [ha] at h
    simp only [partSV] at h
    have : (SV.vals E xs).toArray[off]? = some (v.val E) := by simp [vals_get, h]
    simp [this, go_sem]

def touches0 (σ : List (Nat × SV)) (h : Hint) : Op → List Nat
  | .load _ x => match opnd σ x with | some (.own g _) => [g] | _ => []
  | .store _ x _ => match opnd σ x with | some (.own g _) => [g] | _ => []
  | .call ⟨.value _, _, _⟩ => h.fp
  | _ => []
def touches (σ : List (Nat × SV)) (h : Hint) (op : Op) : List Nat := match h.px, h.pf with
  | none, none => touches0 σ h op
  | _, _ => h.fp
theorem touches_px {σ : List (Nat × SV)} {h : Hint} {op : Op} {res : SV} (e : h.px = some res) : touches σ h op = h.fp := by unfold touches; rw [e]
theorem touches_pf {σ : List (Nat × SV)} {h : Hint} {op : Op} {y : Nat × List SV} (e : h.pf = some y) : touches σ h op = h.fp := by
  unfold touches; rw [e]; cases h.px <;> rfl
theorem touches_some {σ : List (Nat × SV)} {h : Hint} {op : Op} (e : h.px.isSome = true) : touches σ h op = h.fp := by
  obtain ⟨r, hr⟩ := Option.isSome_iff_exists.1 e; exact touches_px hr
theorem touches_0 {σ : List (Nat × SV)} {h : Hint} {op : Op} (e : h.px = none) (e' : h.pf = none) : touches σ h op = touches0 σ h op := by unfold touches; rw [e, e']
theorem evalOp_cases {lay : Lay} {σ : List (Nat × SV)} {m : MState} {h : Hint} {op : Op} {out : Out} {obs : List Ob} (he : evalOp lay σ m h op = some (out, obs)) :
    (∃ res xs, h.px = some res ∧ opnds σ op.operands.toList = some xs ∧ ((h.hx = none ∧ out = .val res ∧ obs = [.pure (m.foot h.fp) op xs res]) ∨ ∃ Φ, h.hx = some Φ ∧ out = .ext res Φ ∧ obs = [.ext h.g op xs res Φ])) ∨
    (∃ f args xs, h.pf = some (f, args) ∧ opnds σ op.operands.toList = some xs ∧ out = .call f args h.res ∧ obs = [.call (m.foot h.fp) f args h.res, .ent op xs f args]) ∨
    (h.px = none ∧ h.pf = none ∧ evalOp0 lay σ m h op = some (out, obs)) := by
  unfold evalOp at he
  cases e1 : h.px with
  | some res =>
    rw [e1] at he
    simp only at he
    cases e2 : opnds σ op.operands.toList with
    | none => rw [e2] at he; cases he
    | some xs =>
      rw [e2] at he
      simp only at he
      cases e3 : h.hx with
      | none =>
        rw [e3] at he
        simp only [Option.some.injEq, Prod.mk.injEq] at he
        exact .inl ⟨res, xs, rfl, rfl, .inl ⟨rfl, he.1.symm, he.2.symm⟩⟩
      | some Φ =>
        rw [e3] at he
        simp only [Option.some.injEq, Prod.mk.injEq] at he
        exact .inl ⟨res, xs, rfl, rfl, .inr ⟨Φ, rfl, he.1.symm, he.2.symm⟩⟩
  | none =>
    rw [e1] at he
    simp only at he
    cases e2 : h.pf with
    | some y =>
      obtain ⟨f, args⟩ := y
      rw [e2] at he
      simp only at he
      cases e3 : opnds σ op.operands.toList with
      | none => rw [e3] at he; cases he
      | some xs =>
        rw [e3] at he
        simp only [Option.some.injEq, Prod.mk.injEq] at he
        exact .inr (.inl ⟨f, args, xs, rfl, rfl, he.1.symm, he.2.symm⟩)
    | none =>
      rw [e2] at he
      exact .inr (.inr ⟨rfl, rfl, he⟩)
end Go.Proofs.Ytlcccomdijdkaaa
