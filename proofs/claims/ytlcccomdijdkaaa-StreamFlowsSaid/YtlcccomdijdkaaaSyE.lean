/- The evaluator is right: the theorem. -/
import Derived.Test.YtlcccomdijdkaaaSyD
namespace Go.Proofs.Ytlcccomdijdkaaa
open Go.RowKit

variable {P : Program} {E : Env} {w : World}

theorem minInt (a b : Int) : (if b < a then b else a) = min a b := by omega
theorem maxInt (a b : Int) : (if a < b then b else a) = max a b := by omega
theorem run_mins2 : ∀ (r : List SV) (a e : Int), mins2 a r = some e → ((SV.vals E r).foldlM Builtin.min2 (Value.int .i64 a)).run P w = .ok (.int .i64 e) w
  | [], a, e, h => by simp [mins2] at h; subst h; simp [SV.vals, Sem.run_pure]
  | x :: r, a, e, h => by
    cases x with
    | v x =>
      cases x with
      | int k b =>
        cases k <;> simp [mins2] at h
        have ih := run_mins2 r _ _ h
        simp only [SV.vals, SV.val, List.foldlM_cons, Sem.run_bind, Builtin.min2, Sem.run_pure, Result.andThen_ok]
        rw [minInt]
        exact ih
      | _ => simp [mins2] at h
    | _ => simp [mins2] at h
theorem run_maxs2 : ∀ (r : List SV) (a e : Int), maxs2 a r = some e → ((SV.vals E r).foldlM Builtin.max2 (Value.int .i64 a)).run P w = .ok (.int .i64 e) w
  | [], a, e, h => by simp [maxs2] at h; subst h; simp [SV.vals, Sem.run_pure]
  | x :: r, a, e, h => by
    cases x with
    | v x =>
      cases x with
      | int k b =>
        cases k <;> simp [maxs2] at h
        have ih := run_maxs2 r _ _ h
        simp only [SV.vals, SV.val, List.foldlM_cons, Sem.run_bind, Builtin.max2, Sem.run_pure, Result.andThen_ok]
        rw [show (if b > a then b else a) = max a b from by omega]
        exact ih
      | _ => simp [maxs2] at h
    | _ => simp [maxs2] at h

theorem run_evInt {op : BinOp} {k : IntKind} {wr : Bool} {a b : Int} {v : SV} {obs : List Ob} {B : Nat} {t : TypeId} {x y : Operand} (h : evInt op k wr a b = some (v, obs)) (ho : AllOb P B obs) :
    ((do eqGuard op t x y (.int k a) (.int k b); binOp op t (.int k a) (.int k b) : Sem Value)).run P w = .ok (v.val E) w := by
  have hg : (eqGuard op t x y (.int k a) (.int k b)).run P w = .ok () w := by
    unfold eqGuard
    split <;> simp [Sem.run_pure]
  simp only [Sem.run_bind, hg, Result.andThen_ok]
  cases op <;> simp only [evInt, Option.some.injEq, Prod.mk.injEq, reduceCtorEq] at h <;> simp only [binOp, ne_eq, not_true_eq_false, if_false, Op.intArith, Op.intCmp]
  case add => cases wr <;> simp [ar] at h <;> obtain ⟨rfl, rfl⟩ := h <;> simp [AllOb, Ob.holds] at ho <;> simp [Sem.run_pure, SV.val, ho]
  case sub => cases wr <;> simp [ar] at h <;> obtain ⟨rfl, rfl⟩ := h <;> simp [AllOb, Ob.holds] at ho <;> simp [Sem.run_pure, SV.val, ho]
  case mul => cases wr <;> simp [ar] at h <;> obtain ⟨rfl, rfl⟩ := h <;> simp [AllOb, Ob.holds] at ho <;> simp [Sem.run_pure, SV.val, ho]
  case quo => cases wr <;> simp [ar] at h <;> obtain ⟨rfl, rfl⟩ := h <;> simp [AllOb, Ob.holds] at ho <;> simp [Op.intDiv, Sem.run_pure, SV.val, ho]
  case rem => obtain ⟨rfl, rfl⟩ := h; simp [AllOb, Ob.holds] at ho; simp [Op.intDiv, Sem.run_pure, SV.val, ho]
  case and => obtain ⟨rfl, rfl⟩ := h; rw [intBits_and]; simp [Sem.run_pure, SV.val]
  case or => obtain ⟨rfl, rfl⟩ := h; rw [intBits_or]; simp [Sem.run_pure, SV.val]
  case xor => obtain ⟨rfl, rfl⟩ := h; rw [intBits_xor]; simp [Sem.run_pure, SV.val]
  case andNot => obtain ⟨rfl, rfl⟩ := h; rw [intBits_andNot]; simp [Sem.run_pure, SV.val]
  all_goals (obtain ⟨rfl, rfl⟩ := h; simp [Sem.run_pure, SV.val])

theorem intsSV_ok : ∀ {xs : List SV} {l : List Int}, intsSV xs = some l → SV.vals E xs = l.map (Value.int .i64)
  | [], l, h => by simp [intsSV] at h; subst h; simp [SV.vals]
  | x :: xs, l, h => by
    cases x with
    | v x =>
      cases x with
      | int k a =>
        cases k <;> simp only [intsSV, reduceCtorEq] at h
        cases hr : intsSV xs with
        | none => rw [hr] at h; simp at h
        | some l' =>
          rw [hr] at h
          simp at h
          subst h
          simp [SV.vals, SV.val, intsSV_ok hr]
      | _ => simp [intsSV] at h
    | _ => simp [intsSV] at h

theorem run_evBin {lay : Lay} (hl : LayOK P lay) {op : BinOp} {t : TypeId} {wr : Bool} {a b v : SV} {obs : List Ob} {B : Nat} {x y : Operand} (h : evBin lay op t wr a b = some (v, obs)) (ho : AllOb P B obs) :
    ((do eqGuard op t x y (a.val E) (b.val E); binOp op t (a.val E) (b.val E) : Sem Value)).run P w = .ok (v.val E) w := by
  cases a with
  | v a =>
    cases b with
    | v b =>
      cases a <;> cases b <;> simp only [evBin, reduceCtorEq] at h
      case bool.bool p q =>
        have key : ∀ d, look lay t = some d → d.k = .boo → (eqGuard op t x y (.bool p) (.bool q)).run P w = .ok () w ∧ (Op.equal t (.bool p) (.bool q)).run P w = .ok (p == q) w := fun d hd hk => by
          have hu := (hl t d hd).under
          rw [hk] at hu
          obtain ⟨u, hu, rfl⟩ := hu
          refine ⟨?_, run_equalIn_bool w _ t p q hu⟩
          unfold eqGuard
          split <;> simp [Sem.run_pure]
        split at h
        · rename_i d hd
          split at h
          · rename_i hk
            obtain ⟨k1, k2⟩ := key d hd (of_decide_eq_true hk)
            simp only [Option.some.injEq, Prod.mk.injEq] at h
            obtain ⟨rfl, rfl⟩ := h
            simp only [SV.val, Sem.run_bind, k1, Result.andThen_ok, binOp, k2, Sem.run_pure]
          · cases h
        · rename_i d hd
          split at h
          · rename_i hk
            obtain ⟨k1, k2⟩ := key d hd (of_decide_eq_true hk)
            simp only [Option.some.injEq, Prod.mk.injEq] at h
            obtain ⟨rfl, rfl⟩ := h
            simp only [SV.val, Sem.run_bind, k1, Result.andThen_ok, binOp, k2, Sem.run_pure]
          · cases h
        · cases h
      case int.int =>
        split at h
        · rename_i hk
          have hk := of_decide_eq_true hk
          subst hk
          exact run_evInt h ho
        · cases h
    | _ => cases a <;> simp [evBin] at h
  | agg xs =>
    cases b with
    | agg ys =>
      simp only [evBin] at h
      have key : ∀ (d : TyD) (as bs : List Int), look lay t = some d → intsSV xs = some as → intsSV ys = some bs → (d.eq && Nat.beq as.length d.n && Nat.beq bs.length d.n) = true →
          (eqGuard op t x y ((SV.agg xs).val E) ((SV.agg ys).val E)).run P w = .ok () w ∧ (Op.equal t ((SV.agg xs).val E) ((SV.agg ys).val E)).run P w = .ok (eqL as bs) w := fun d as bs hd ha hb hc => by
        simp only [Bool.and_eq_true, Nat.beq_eq] at hc
        obtain ⟨⟨c1, c2⟩, c3⟩ := hc
        obtain ⟨e1, e2⟩ := (hl t d hd).eq c1 as bs w c2 c3
        simp only [SV.val, intsSV_ok ha, intsSV_ok hb]
        refine ⟨?_, e1⟩
        clear h
        cases op <;> simp [eqGuard, program, Sem.run, e2, Result.andThen, go_sem]
      split at h
      · rename_i d as bs hd ha hb
        split at h
        · rename_i hc
          obtain ⟨k1, k2⟩ := key d as bs hd ha hb hc
          simp only [Option.some.injEq, Prod.mk.injEq] at h
          obtain ⟨rfl, rfl⟩ := h
          simp only [Sem.run_bind, k1, Result.andThen_ok]
          simp only [SV.val] at k2 ⊢
          simp only [binOp, Sem.run_bind, k2, Result.andThen_ok, Sem.run_pure]
        · cases h
      · rename_i d as bs hd ha hb
        split at h
        · rename_i hc
          obtain ⟨k1, k2⟩ := key d as bs hd ha hb hc
          simp only [Option.some.injEq, Prod.mk.injEq] at h
          obtain ⟨rfl, rfl⟩ := h
          simp only [Sem.run_bind, k1, Result.andThen_ok]
          simp only [SV.val] at k2 ⊢
          simp only [binOp, Sem.run_bind, k2, Result.andThen_ok, Sem.run_pure]
        · cases h
      · cases h
    | _ => simp [evBin] at h
  | _ => simp [evBin] at h
end Go.Proofs.Ytlcccomdijdkaaa
