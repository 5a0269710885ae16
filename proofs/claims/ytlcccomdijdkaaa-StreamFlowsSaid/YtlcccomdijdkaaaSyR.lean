/- A call that may panic; a closure, or a method by pointer, that is entered with blocks and letters. -/
import Derived.Test.YtlcccomdijdkaaaSyQ
namespace Go.Proofs.Ytlcccomdijdkaaa
open Go.RowKit

variable {P : Program} {X : Ctx} {E : Env} {a : Act} {w : World} {st : SState} {Po : Exit → Act → World → Prop} {K : Act → World → Prop}

theorem out_then_panic {ch : List PanicEntry} (h : Po (.panic ch) a w) : Exit.then K Po (.panic ch) a w := h
theorem out_block_panic {i : Nat} {ch : List PanicEntry} (h : Po (.panic ch) a w) : Exit.inBlock i Po (.panic ch) a w := h
/-- an interface is made of a constant, and thrown -/
def dieB (t d : Nat) (k : IntKind) (n : Int) (ops : List Oper) : Bool := match ops with
  | [o1, o2] => (match o1.op, o1.dst, o1.guard with
    | .makeInterface t' (.const (.int k' n')), some d', none => Nat.beq t t' && Nat.beq d d' && (decide (k = k') && decide (n = n'))
    | _, _, _ => false) && (match o2.op, o2.guard with
    | .panic (.tmp d'), none => Nat.beq d d'
    | _, _ => false)
  | _ => false
theorem sym_die {id : Nat} {ops : List Oper} (t d : Nat) (k : IntKind) (n : Int) (hops : dieB t d k n ops = true) (ht : P.concrete t = true) (hd : Nat.blt d X.n = true) (S : St X st E a w) (h : ∀ a', a'.defers = a.defers → Po (.panic [{ v := .iface t (.int k n), recovered := false }]) a' w) : (Code.region id ops.toArray false).wp P Po a w := by
  unfold dieB at hops
  split at hops
  · rename_i o1 o2
    simp only [Bool.and_eq_true] at hops
    obtain ⟨h1, h2⟩ := hops
    split at h1
    · rename_i t' k' n' d' e1 e2 e3
      simp only [Bool.and_eq_true, Nat.beq_eq, decide_eq_true_eq] at h1
      obtain ⟨⟨rfl, rfl⟩, rfl, rfl⟩ := h1
      split at h2
      · rename_i d'' e4 e5
        simp only [Nat.beq_eq] at h2
        subst h2
        refine wp_region_lit (wpList_step fun K hK => ?_)
        have hw1 : ∀ y, Region.wanted o1 y = true := fun y => by simp [Region.wanted, e3]
        have hw2 : ∀ y, Region.wanted o2 y = true := fun y => by simp [Region.wanted, e5]
        rw [if_pos (hw1 _)]
        have hx1 : (execOp a.eval o1).run P w = .ok (.value (.iface t (.int k n))) w := by
          obtain ⟨dst, op, ty, pos, aft, gd⟩ := o1
          simp only at e1
          subst e1
          simp [execOp, run_makeInterface w t _ ht, Sem.run_bind, Act.eval, Result.andThen, Sem.run_pure]
        unfold Oper.wp
        rw [hx1]
        simp only [Oper.upon]
        refine hK _ _ ?_
        refine wpList_step fun K2 hK2 => ?_
        rw [if_pos (hw2 _)]
        have hev : (a.put o1.dst (.iface t (.int k n))).eval (.tmp d) = .iface t (.int k n) := by
          rw [e2]
          simp [Act.put, Act.eval, S.size, Nat.lt_of_succ_le (Nat.le_of_ble_eq_true hd)]
        have hx2 : (execOp (a.put o1.dst (.iface t (.int k n))).eval o2).run P w = .halt (.panic (.iface t (.int k n))) w := by
          obtain ⟨dst, op, ty, pos, aft, gd⟩ := o2
          simp only at e4
          subst e4
          simp only [execOp, hev]
          simp [Instr.panic, go_sem]
        rw [Oper.wp, hx2]
        simp only [Oper.upon]
        refine h _ ?_
        rw [e2]
        rfl
      · cases h2
    · cases h1
  · cases hops

theorem sym_closure_h {f : FuncId} {fn : Func} {c : Code} {W : World} {T : Ending → World → Prop} (hf : P.funcs[f]? = some fn) (hb : fn.body = some c) (svs : List SV) (rds : List (Nat × Q)) (sls : List (Nat × RS)) (xs : List (Nat × (Nat → Value))) (cbs : List CB) (hds blks : List (Nat × BE)) (hbl : blksOf cbs ++ hds = blks) (hn : Nat.ble svs.length fn.ntmps = true)
    (hone : AllOne xs) (hB : AllCB W (envC sls xs cbs) cbs) (hA : ApartCB cbs) (hr : AllRd W (envC sls xs cbs) rds) (hrC : AllRC (envC sls xs cbs) cbs rds) (hh : AllHeld (fun k => NotCB k cbs) W (envC sls xs cbs) hds)
    (h : ∀ E a w, St ⟨W, inCB cbs, fn.ntmps, [], allR, rhoOf cbs, (envOf sls).sl, (envOf sls xs).x⟩ ⟨argSlots 0 svs, ⟨blks, rds, []⟩⟩ E a w → c.wp P (bodyPost P fn T) a w) : Calls P f (SV.vals (envC sls xs cbs) svs).toArray W T := by
  subst hbl
  have hblk : ∀ {g t cs}, look (blksOf cbs ++ hds) g = some (.blk t cs) → ∃ x ∈ cbs, x.g = g ∧ .blk t cs = BE.blk x.t x.cs ∧ rhoOf cbs g = x.b := fun hx => by
    rcases look_append _ _ _ _ hx with h1 | h1
    · exact blksOf_look h1
    · obtain ⟨Φ, e, _⟩ := hh.get _ _ h1
      cases e
  refine sym_enter hf hb svs rds (blksOf cbs ++ hds) (envC sls xs cbs) (inCB cbs) allR (rhoOf cbs) (fun _ _ => rfl) hn (envOf_one (sls := sls) hone) (fun g t cs hx => ?_) (fun g g' t t' cs cs' hx hy e => ?_) (fun g Φ hx => ?_) hr (fun s q b off hq hl hA' => ⟨trivial, fun g t cs hx e => ?_⟩) (fun a w S => h _ a w S)
  · obtain ⟨x, hx1, _, hx2, hx3⟩ := hblk hx
    simp only [BE.blk.injEq] at hx2
    obtain ⟨rfl, rfl⟩ := hx2
    have := hB.get x hx1
    rw [show (envC sls xs cbs).ρ g = x.b from hx3]
    exact ⟨this, x, hx1, rfl⟩
  · obtain ⟨x, hx1, rfl, _, hx3⟩ := hblk hx
    obtain ⟨y, hy1, rfl, _, hy3⟩ := hblk hy
    have e' : x.b = y.b := by rw [← hx3, ← hy3]; exact e
    rw [hA.get x hx1 y hy1 e']
  · rcases look_append _ _ _ _ hx with h1 | h1
    · obtain ⟨x, _, _, hx2, _⟩ := blksOf_look h1
      cases hx2
    · obtain ⟨Φ', e, h2⟩ := hh.get _ _ h1
      cases e
      exact h2.mono fun k _ hk => ⟨trivial, fun g' t cs hx' e => by
        obtain ⟨x, hx1, _, _, hx3⟩ := hblk hx'
        exact hk.get x hx1 (by rw [← e]; exact hx3)⟩
  · obtain ⟨x, hx1, _, _, hx3⟩ := hblk hx
    exact (hrC.get s q hq b off hl hA').get x hx1 (by rw [← e]; exact hx3)
end Go.Proofs.Ytlcccomdijdkaaa
