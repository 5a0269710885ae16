/- The operations of a round: what is so outside of rounds is so within. -/
import Derived.Test.YtlcccomdijdkaaaSyT
namespace Go.Proofs.Ytlcccomdijdkaaa
open Go.RowKit

variable {P : Program} {X : Ctx} {E : Env} {a : Act} {w : World} {st : SState} {K : Act → World → Prop} {Po : Exit → Act → World → Prop} {ro : Option Nat} {n : Nat}

/-- no fence at all, in a round (some l) or outside of rounds (none) -/
abbrev FW (ro : Option Nat) : Fence := { Fence.wide with round := ro }
abbrev FR (l : Nat) : Fence := FW (some l)
theorem FW_none : FW none = Fence.wide := rfl
theorem FR_in (l : Nat) : FR l = Fence.wide.inRound l := rfl
theorem callsFR {f : FuncId} {args : Array Value} {R : Ending → World → Prop} (h : Calls P f args w R) : CallsIn (FW ro) n P f args w R := (callsIn_wide (n := n)).2 h
theorem upon_in {o : Oper} (hd : ∀ c, o.op ≠ .defer c) (h : o.wp P a w K Po) : o.wpIn (FW ro) n P a w K Po := by
  refine ⟨fun _ _ => trivial, ?_⟩
  rw [show (FW ro).round = ro from rfl, Oper.semAt_eq ro a.eval o hd]
  unfold Oper.wp at h
  revert h
  generalize (execOp a.eval o).run P w = r
  intro h
  cases r with
  | ok x w' =>
    cases x with
    | value v => exact h
    | skip => exact h
    | defer d => exact h
    | enter f args => exact ⟨fun hh => (by cases hh), (callsFR (n := n - 1) h : CallsIn (FW ro) (n - 1) P f args w' _).mono fun e w'' hR => by cases e <;> exact hR⟩
    | row row args =>
      refine ⟨fun hh => (by cases hh), fun c cs _ => ?_⟩
      obtain ⟨v, w'', h1, h2⟩ := h c cs
      exact ⟨v, w'', h1, stepsIn_wide.2 h2⟩
    | _ => simp [Oper.upon] at h
  | halt e w' =>
    cases e with
    | panic v => exact h
    | _ => simp [Oper.upon] at h
def isDefer : Op → Bool
  | .defer _ => true
  | _ => false
def noDefer (l : List Oper) : Bool := l.all fun o => !isDefer o.op
theorem noDefer_ok {l : List Oper} (h : noDefer l = true) : ∀ o ∈ l, ∀ c, o.op ≠ .defer c := fun o ho c hc => by
  have := List.all_eq_true.1 h o ho
  rw [hc] at this
  cases this
theorem seq_soundI {lay : Lay} (hl : LayOK P lay) {ops : List Oper} {hs : List (Nat × Hint)} {rest : List Oper} : ∀ (k : List Oper) (i : Nat) (st : SState) (tr : List IT) (obs : List Ob) (st' : SState) (E : Env) (a : Act) (w : World),
    evalOps lay ops hs i k st = some (tr, obs, st') → AllOb P X.w0.heap.size obs → (∀ o ∈ k, ∀ d, o.dst = some d → d < X.n) → (∀ o ∈ k, ∀ c, o.op ≠ .defer c) → St X st E a w → (∀ E' a' w', St X st' E' a' w' → wpListIn (FW ro) n P ops.toArray Po rest a' w') → wpListIn (FW ro) n P ops.toArray Po (k ++ rest) a w
  | [], i, st, tr, obs, st', E, a, w, he, _, _, _, S, kk => by
    simp only [evalOps, Option.some.injEq, Prod.mk.injEq] at he
    obtain ⟨_, _, rfl⟩ := he
    exact kk E a w S
  | o :: k, i, st, tr, obs, st', E, a, w, he, ho, hd, hdf, S, kk => by
    simp only [evalOps] at he
    cases hi : itemOf lay ops st o (hintAt hs i) with
    | none => rw [hi] at he; simp at he
    | some r =>
      obtain ⟨x, ob⟩ := r
      rw [hi] at he
      simp only at he
      cases hr : evalOps lay ops hs (i + 1) k (applyTI st x) with
      | none => rw [hr] at he; simp at he
      | some r2 =>
        obtain ⟨tr2, obs2, st2⟩ := r2
        rw [hr] at he
        simp only [Option.some.injEq, Prod.mk.injEq] at he
        obtain ⟨rfl, rfl, rfl⟩ := he
        obtain ⟨o1, o2⟩ := AllOb.append ho
        obtain ⟨n1, n2, n3⟩ := itemOf_new hi
        rw [List.cons_append]
        refine wpListIn_step fun K hK => ?_
        have := item_sound (K := K) (Q := Po) hl hi o1 S (fun _ _ => rfl) (fun _ _ => rfl) (fun g y h1 h2 => by
            obtain ⟨f1, f2⟩ := n2 g y h1 h2
            exact ⟨(freshBl_ok f2).1, freshS_ok f1, (freshBl_ok f2).2⟩) (fun g y h1 h2 => n3 g y h1 h2) (fun d hd' => hd o (by simp) d hd') (fun E' a' w' S' => hK a' w' (by
            refine seq_soundI hl k (i + 1) (applyTI st x) tr2 obs2 st2 E' a' w' hr o2 (fun o' ho' => hd o' (by simp [ho'])) (fun o' ho' => hdf o' (by simp [ho'])) ?_ kk
            unfold St
            rw [applyTI_slots, applyTI_blks, (applyTI_rest st x).1, (applyTI_rest st x).2]
            exact S'))
        split
        · rename_i hw
          rw [if_pos hw] at this
          exact upon_in (hdf o (by simp)) this
        · rename_i hw
          rw [if_neg hw] at this
          exact ⟨fun _ _ => trivial, this⟩
theorem sym_runI {lay : Lay} (hl : LayOK P lay) {ops k : List Oper} (hs : List (Nat × Hint)) (i m : Nat) (st' : SState) (obs : List Ob) (S : St X st E a w) (hn : dstB X.n k = true) (hdf : noDefer k = true)
    (hev : evalN lay ops hs i m k st = some (st', obs)) (ho : AllOb P X.w0.heap.size obs) (kk : ∀ E' a' w', St X st' E' a' w' → wpListIn (FW ro) n P ops.toArray Po (k.drop m) a' w') : wpListIn (FW ro) n P ops.toArray Po k a w := by
  unfold evalN at hev
  cases h1 : evalOps lay ops hs i (k.take m) st with
  | none => rw [h1] at hev; simp at hev
  | some r =>
    obtain ⟨tr, obs2, st2⟩ := r
    rw [h1] at hev
    simp only [Option.some.injEq, Prod.mk.injEq] at hev
    obtain ⟨rfl, rfl⟩ := hev
    have := seq_soundI (X := X) (Po := Po) (ro := ro) (n := n) (rest := k.drop m) hl (k.take m) i st tr obs2 st2 E a w h1 ho (fun o ho => dstB_ok hn o (List.mem_of_mem_take ho)) (fun o ho => noDefer_ok hdf o (List.mem_of_mem_take ho)) S kk
    rwa [List.take_append_drop] at this
theorem sym_openI {id : Nat} {ops : List Oper} (h : wpListIn (FW ro) n P ops.toArray Po ops a w) : (Code.region id ops.toArray false).wpIn (FW ro) n P Po a w := wpIn_region_lit h
theorem sym_doneI {ops : List Oper} {k : List Oper} (hl : k = []) (h : Po .normal a w) : wpListIn (FW ro) n P ops.toArray Po k a w := by subst hl; exact h
/-- yield is called -/
theorem sym_yield {ops r : List Oper} {o : Oper} {x y : Operand} {ts : Array TypeId} {ln : Nat} {u : Value} {T : Ending → World → Prop} (ho : o.op = .call { callee := .value x, args := #[y], argTypes := ts }) (hgd : o.guard = none) (hx : a.eval x = .func (.yield ln) #[] #[]) (hy : a.eval y = u)
    (hY : YieldAt (FW ro) (n - 1) P ln #[u] w T) (h : ∀ e w', T e w' → ∃ v, e = .returned v ∧ wpListIn (FW ro) n P ops.toArray Po r (a.put o.dst v) w') : wpListIn (FW ro) n P ops.toArray Po (o :: r) a w := by
  obtain ⟨fn, tm, asg, bo, hr, hR⟩ := hY
  refine wpListIn_plain hgd fun K hK => ?_
  refine ⟨fun _ _ => trivial, ?_⟩
  rw [show (FW ro).round = ro from rfl, Oper.semAt_eq ro a.eval o (by rw [ho]; intro c hc; cases hc)]
  have hx1 : (execOp a.eval o).run P w = .ok (.round ln fn tm asg bo) w := by
    obtain ⟨dst, op, ty, pos, aft, gd⟩ := o
    simp only at ho
    subst ho
    simp only [execOp, resolve, Sem.run_bind, hx, Deferred.ofValue, Sem.run_pure, Result.andThen_ok, invoke]
    simpa [hy] using hr
  rw [hx1]
  refine ⟨fun hh => (by cases hh), hR.mono fun e w' hT => ?_⟩
  obtain ⟨v, rfl, h2⟩ := h e w' hT
  exact hK _ _ h2
/-- a call of a function, whatever it does -/
theorem sym_callI {ops r : List Oper} {o : Oper} {x : Operand} {args : Array Operand} {ts : Array TypeId} {f : FuncId} {vs : Array Value} {T : Ending → World → Prop} (ho : o.op = .call { callee := .value x, args := args, argTypes := ts }) (hgd : o.guard = none) (hx : a.eval x = .func (.func f) #[] #[]) (hy : args.map a.eval = vs) (hE : EntersOK P f)
    (hC : Calls P f vs w T) (h : ∀ e w', T e w' → (∃ v, e = .returned v ∧ wpListIn (FW ro) n P ops.toArray Po r (a.put o.dst v) w') ∨ ∃ ch, e = .panicked ch ∧ Po (.panic ch) a w') : wpListIn (FW ro) n P ops.toArray Po (o :: r) a w := by
  refine wpListIn_plain hgd fun K hK => upon_in (by rw [ho]; intro c hc; cases hc) ?_
  unfold Oper.wp
  have hx1 : (execOp a.eval o).run P w = .ok (.enter f vs) w := by
    obtain ⟨dst, op, ty, pos, aft, gd⟩ := o
    simp only at ho
    subst ho
    simp only [execOp, resolve, Sem.run_bind, hx, Deferred.ofValue, Sem.run_pure, Result.andThen_ok, invoke, hy]
    rw [show ((#[] : Array Value) ++ vs ++ #[]) = vs from by simp]
    exact hE _ _
  rw [hx1]
  refine hC.mono fun e w' hT => ?_
  rcases h e w' hT with ⟨v, rfl, h2⟩ | ⟨ch, rfl, h2⟩
  · exact hK _ _ h2
  · exact h2
end Go.Proofs.Ytlcccomdijdkaaa
