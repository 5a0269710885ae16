/- Operations by themselves: interfaces are made, their methods are found and entered; arrays. -/
import Derived.Test.YtlcccomdijdkaaaSyZ2
namespace Go.Proofs.Ytlcccomdijdkaaa
open Go.RowKit

variable {P : Program} {E : Env} {a : Act} {w : World} {X : Ctx} {st : SState}

theorem pure_iface {B : Nat} {m : MState} {t d : Nat} {xs : List SV} {vs : List Value} (h : P.concrete t = true) (hv : ∀ E, SV.vals E xs = vs) : (Ob.pure m (.makeInterface t (.tmp d)) [.agg xs] (.v (.iface t (.agg vs.toArray)))).holds P B := by
  intro E w R ρ dst ty pos aft gd _ hx
  have e : ρ (.tmp d) = .agg vs.toArray := by simpa [Op.operands, SV.vals, SV.val, hv] using hx
  simp [execOp, e, run_makeInterface w t _ h, Sem.run_bind, Result.andThen, Sem.run_pure, SV.val]
theorem pure_method {B : Nat} {m : MState} {name : String} {d : Nat} {u : Value} : (Ob.pure m (.makeFunc (.method name) #[.tmp d] #[]) [.v u] (.v (.func (.method name) #[u] #[]))).holds P B := by
  intro E w R ρ dst ty pos aft gd _ hx
  have e : ρ (.tmp d) = u := by simpa [Op.operands, SV.vals, SV.val] using hx
  simp [execOp, Instr.makeFunc, e, Sem.run_bind, Result.andThen, Sem.run_pure, SV.val]
theorem pure_nilMethod {B : Nat} {m : MState} {name : String} {d t : Nat} {u : Value} (h : ∀ w, (nilAhead (P.types.size + Made.depth) t u name).run P w = .ok (some false) w) : (Ob.pure m (.nilCheck (.tmp d)) [.v (.func (.method name) #[.iface t u] #[])] (.v (.func (.method name) #[.iface t u] #[]))).holds P B := by
  intro E w R ρ dst ty pos aft gd _ hx
  have e : ρ (.tmp d) = .func (.method name) #[.iface t u] #[] := by simpa [Op.operands, SV.vals, SV.val] using hx
  simp [execOp, e, Sem.run_bind, Result.andThen, Sem.run_pure, SV.val, program, Sem.run, h]
theorem ent_invoke {B : Nat} {x : Operand} {name : String} {args : Array Operand} {ts : Array TypeId} {t f : Nat} {u : Value} {A : SV} {xs : List SV} (hA : ∀ E, A.val E = u) (hm : ∀ w, (method (P.types.size + Made.depth) t u name).run P w = .ok (f, u) w) (hE : EntersOK P f) :
    (Ob.ent (.call ⟨.invoke x name, args, ts⟩) (.v (.iface t u) :: xs) f (A :: xs)).holds P B := by
  intro E w ρ dst ty pos aft gd hx
  have h0 : ρ x :: args.toList.map ρ = .iface t u :: SV.vals E xs := by simpa [Op.operands, Call.operands, SV.vals, SV.val] using hx
  obtain ⟨e1, e2⟩ := List.cons.inj h0
  have e3 : args.map ρ = (SV.vals E xs).toArray := by apply Array.ext'; simpa using e2
  have e4 : (#[Value.iface t u] ++ (SV.vals E xs).toArray).extract 1 (#[Value.iface t u] ++ (SV.vals E xs).toArray).size = (SV.vals E xs).toArray := by
    apply Array.ext'; simp
  simp only [execOp, resolve, Sem.run_bind, e1, e3, Sem.run_pure, Result.andThen_ok, invoke]
  simp only [Array.getElem?_append, Array.size_singleton, Nat.lt_irrefl, Nat.zero_lt_one, if_true]
  simp only [show (#[Value.iface t u] : Array Value)[0]? = some (.iface t u) from rfl, callMethod, e4]
  simp only [Sem.run_bind, program, Sem.run, Result.andThen_ok, hm]
  rw [show (#[u] : Array Value) ++ (SV.vals E xs).toArray = (SV.vals E (A :: xs)).toArray from by apply Array.ext'; simp [SV.vals, hA]]
  exact hE _ _
theorem AllSl.args {a : Act} {E : Env} : ∀ (svs : List SV) (k : Nat), (∀ i x, svs[i]? = some x → a.tmps[k + i]? = some (x.val E)) → AllSl a E (argSlots k svs)
  | [], _, _ => trivial
  | x :: r, k, h => ⟨by simpa using h 0 x rfl, AllSl.args r (k + 1) fun i y hy => by have := h (i + 1) y (by simpa using hy); rwa [show k + 1 + i = k + (i + 1) by omega]⟩
/-- a method by pointer is entered, with a row that grows -/
theorem sym_closure_g {f : FuncId} {fn : Func} {c : Code} {W : World} {T : Ending → World → Prop} (hf : P.funcs[f]? = some fn) (hb : fn.body = some c) (svs : List SV) (cbs : List CB) (blks : List (Nat × BE)) (hbl : blksOf cbs = blks) (q : GQ) (V : Value) (hn : Nat.ble svs.length fn.ntmps = true)
    (hB : AllCB W (envG cbs V) cbs) (hA : ApartCB cbs) (hG : GrAt W 0 q V) (hV : ∀ b, V.ownBlock = some b → NotCB b cbs)
    (h : ∀ E a w, St ⟨W, fun b => inCB cbs b ∨ V.ownBlock = some b, fn.ntmps, [], allR, rhoOf cbs, (envOf []).sl, (envOf []).x⟩ ⟨argSlots 0 svs, ⟨blks, [], [(0, q)]⟩⟩ E a w → c.wp P (bodyPost P fn T) a w) : Calls P f (SV.vals (envG cbs V) svs).toArray W T := by
  subst hbl
  have hn := Nat.le_of_ble_eq_true hn
  refine calls_of_wp hf hb (h (envG cbs V) _ _ (St.make2 (a := { tmps := (SV.vals (envG cbs V) svs).toArray ++ Array.replicate (fn.ntmps - (SV.vals (envG cbs V) svs).toArray.size) undef, defers := [] }) cbs 0 q V (AllSl.args svs 0 fun i x hx => ?_) ?_ hB hA hG hV))
  · have hlt : i < svs.length := (List.getElem?_eq_some_iff.1 hx).1
    rw [Nat.zero_add, Array.getElem?_append_left (by simp [vals_length, hlt])]
    simp [vals_get, hx]
  · simp [vals_length]; omega
end Go.Proofs.Ytlcccomdijdkaaa
