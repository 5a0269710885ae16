/- A row of zeros that append makes of a length; a slice of nothing; a row of slices. -/
import Derived.Lib.AppendZeros
import Derived.Scope
import Derived.Test.YtlcccomdijdkaaaSyArr
namespace Go.Proofs.Ytlcccomdijdkaaa
open Go.RowKit

variable {P : Program} {X : Ctx} {E : Env} {a : Act} {w : World} {st : SState}

theorem pure_idxRow {lay : Lay} (hl : LayOK P lay) {B t g n j len cap e es : Nat} {m : MState} {x y : Operand} {k : IntKind} {z : List Value} {eq : Bool} {by' : Nat} (ht : look lay t = some ⟨.sli e es, n, z, eq, by'⟩) (hj : j < len) : (Ob.pure m (.indexAddr t x y) [.row g 0 len cap, .v (.int k j)] (.own g (j * es))).holds P B := by
  intro E w R ρ dst ty pos aft gd _ hx
  have hx' : ρ x = .slice (some ⟨E.ρ g, 0, none⟩) len cap ∧ ρ y = .int k j := by simpa [Op.operands, SV.vals, SV.val] using hx
  obtain ⟨u, hu, hmm⟩ := (hl t _ ht).under
  obtain ⟨rfl, hkn, hes⟩ := hmm
  simp only [execOp, Instr.indexAt, hx'.1, hx'.2, asIntOf, Sem.run_bind, Sem.run_pure, Result.andThen_ok, run_underlying hu]
  rw [if_pos (by omega)]
  simp only [Sem.run_bind, knownB.run_size hkn, Result.andThen_ok, Sem.run_pure, ← hes, add_plain', SV.val, Int.toNat_natCast, Nat.zero_add]
theorem pure_capNil {lay : Lay} (hl : LayOK P lay) {B t n e es : Nat} {m : MState} {x : Operand} {z : List Value} {eq : Bool} {by' : Nat} (ht : look lay t = some ⟨.sli e es, n, z, eq, by'⟩) : (Ob.pure m (.call ⟨.builtin .cap, #[x], #[t]⟩) [.v (.slice none 0 0)] (.v (.int .i64 0))).holds P B := by
  intro E w R ρ dst ty pos aft gd _ hx
  have hx' : ρ x = .slice none 0 0 := by simpa [Op.operands, Call.operands, SV.vals, SV.val] using hx
  obtain ⟨u, hu, hmm⟩ := (hl t _ ht).under
  obtain ⟨rfl, _⟩ := hmm
  simp [execOp, resolve, Sem.run_bind, Sem.run_pure, Result.andThen, invoke, builtin, Builtin.cap_, run_underlying hu, goInt, go_sem, hx', SV.val]
theorem pure_sliceNil {lay : Lay} (hl : LayOK P lay) {B t n e es : Nat} {m : MState} {x y : Operand} {z : List Value} {eq : Bool} {by' : Nat} (ht : look lay t = some ⟨.sli e es, n, z, eq, by'⟩) : (Ob.pure m (.slice t x none (some y) none) [.v (.slice none 0 0), .v (.int .i64 0)] (.v (.slice none 0 0))).holds P B := by
  intro E w R ρ dst ty pos aft gd _ hx
  have hx' : ρ x = .slice none 0 0 ∧ ρ y = .int .i64 0 := by simpa [Op.operands, SV.vals, SV.val] using hx
  obtain ⟨u, hu, hmm⟩ := (hl t _ ht).under
  obtain ⟨rfl, hkn, hes⟩ := hmm
  simp [execOp, Instr.sliceAt, Instr.slice, Instr.sliceBounds, Instr.sliceBound, hx'.1, hx'.2, Sem.run_bind, Sem.run_pure, Result.andThen_ok, run_underlying hu, knownB.run_size hkn, SV.val, Result.andThen, asInt, asIntOf]
/-- a row of n zeros, and its part of no length -/
def ZRow (q : GQ) (n : Nat) : (Nat → Value) → World → Prop := fun v w => ∃ b cap, v 0 = .slice (some ⟨b, 0, none⟩) n cap ∧ v 1 = .slice (some ⟨b, 0, none⟩) 0 cap ∧ GrAt w 0 q (v 1)
theorem zrow_ext {lay : Lay} (hl : LayOK P lay) {B g t tn e es n1 n2 : Nat} {x y : Operand} {z1 z2 : List Value} {eq1 eq2 : Bool} {by1 by2 : Nat} {kn : IntKind} {d : TyD} (ht : look lay t = some ⟨.sli e es, n1, z1, eq1, by1⟩) (htn : look lay tn = some ⟨.int kn, n2, z2, eq2, by2⟩) (hd : look lay e = some d) (hes : d.n = es) (hpos : 0 < es) (hby : d.by' ≤ 1000) {i : Int} (hi : 0 < i ∧ i ≤ 1000000) :
    (Ob.ext g (.call ⟨.builtin .append, #[x, y], #[t, tn]⟩) [.v (.slice none 0 0), .v (.int .i64 i)] (.ltr g 0) (ZRow ⟨e, es, 0, []⟩ i.toNat)).holds P B := by
  intro E w ρ dst ty pos aft gd hx
  have hx' : ρ x = .slice none 0 0 ∧ ρ y = .int .i64 i := by simpa [Op.operands, Call.operands, SV.vals, SV.val] using hx
  obtain ⟨u, hu, hmm⟩ := (hl t _ ht).under
  obtain ⟨rfl, _⟩ := hmm
  obtain ⟨u2, hu2, hmm2⟩ := (hl tn _ htn).under
  simp only at hmm2
  subst hmm2
  obtain ⟨_, inf, hinf, his, zv, hzv, hzc⟩ := (hl e d hd).size
  have hb : inf.bytes = d.by' := by have := (hl e d hd).bytes; simpa [Program.bytesOf, hinf] using this
  obtain ⟨n, rfl⟩ : ∃ n : Nat, i = n := ⟨i.toNat, by omega⟩
  have hmul : n * inf.bytes ≤ 1000000 * 1000 := Nat.mul_le_mul (by omega) (by rw [hb]; exact hby)
  have hrun := Lib.run_append_nil_zeros (P := P) w t tn ty e inf zv .i64 kn hu hu2 hinf hzv n (by omega) (by omega) (by omega) (by omega)
  have hzs : zv.cells.size = es := by
    have := (hl e d hd).zlen
    rw [← hes, ← this, ← hzc]; simp
  have hge := grownCap_ge w n 0 e
  refine ⟨vfun [.slice (some ⟨w.heap.size, 0, none⟩) n (grownCap w n 0 e), .slice (some ⟨w.heap.size, 0, none⟩) 0 (grownCap w n 0 e)], w.drew.alloc (.cells (Builtin.zeroCells zv.cells n ++ Builtin.zeroCells zv.cells (grownCap w n 0 e - n)) e), ?_, (Below.refl _ _).drew.alloc (Nat.le_refl _) _, vfun_one _ ⟨rfl, rfl, trivial⟩, ?_⟩
  · simp only [execOp, resolve, Sem.run_bind, Sem.run_pure, Result.andThen_ok, invoke, builtin, hx'.1, hx'.2, List.map_toArray, List.map_cons, List.map_nil, hrun]
    simp [SV.val, Env.updX, vfun]
  · refine ⟨fun k => k = w.heap.size, fun k hk => by subst hk; exact ⟨by simp, Nat.le_refl _⟩, fun w' hw => ⟨w.heap.size, grownCap w n 0 e, by simp [vfun], rfl, ?_⟩⟩
    refine GrAt.move ?_ (fun b hb => hw b ?_)
    · exact World.ownsRow_made (w.drew) _ _ (Nat.zero_le _) (grownCap_le_maxLen w n 0 e (by simp only [maxLen]; omega)) (by simp only [Array.size_append, size_zeroCells, hzs, ← Nat.add_mul]; congr 1; omega)
    · simpa [vfun, Value.ownBlock] using hb.symm
theorem pure_sliceZ {lay : Lay} (hl : LayOK P lay) {B t n e es g k : Nat} {m : MState} {x y : Operand} {z : List Value} {eq : Bool} {by' : Nat} {q : GQ} (ht : look lay t = some ⟨.sli e es, n, z, eq, by'⟩) (hm : look m.blks g = some (.held (ZRow q k))) : (Ob.pure m (.slice t x none (some y) none) [.ltr g 0, .v (.int .i64 0)] (.ltr g 1)).holds P B := by
  intro E w R ρ dst ty pos aft gd hM hx
  have hx' : ρ x = E.x g 0 ∧ ρ y = .int .i64 0 := by simpa [Op.operands, SV.vals, SV.val] using hx
  obtain ⟨b, cap, h0, h1, _⟩ := (hM.held g _ hm).out
  obtain ⟨u, hu, hmm⟩ := (hl t _ ht).under
  obtain ⟨rfl, hkn, hes⟩ := hmm
  simp [execOp, Instr.sliceAt, Instr.slice, Instr.sliceBounds, Instr.sliceBound, hx'.1, hx'.2, h0, h1, Sem.run_bind, Sem.run_pure, Result.andThen_ok, run_underlying hu, knownB.run_size hkn, SV.val, Result.andThen, asInt, asIntOf, add_plain']
/-- what is held of a row hangs on its block -/
theorem HeldIn.gr {R : Nat → Prop} {q : GQ} {v : Value} {Φ : World → Prop} (h : HeldIn R w Φ) (hΦ : ∀ w, Φ w → GrAt w 0 q v) : ∀ b, v.ownBlock = some b → R b := fun b hb => by
  obtain ⟨D, hD, hk⟩ := h
  by_cases hdb : D b
  · exact (hD b hdb).2
  · exfalso
    have h1 := hΦ _ (hk { w with heap := w.heap.setIfInBounds b (.deferred none) } fun k hkD => by
      have hne : b ≠ k := fun e => hdb (e ▸ hkD)
      simp [Array.getElem?_setIfInBounds_ne hne])
    rcases h1.2 with ⟨h2, _⟩ | ⟨g, cap, cur, h2, _, hg, _⟩
    · rw [h2] at hb; simp [Value.ownBlock] at hb
    · rw [h2] at hb
      simp only [Value.ownBlock, Option.some.injEq] at hb
      subst hb
      have hlt : g < w.heap.size := by
        have := (Array.getElem?_eq_some_iff.1 hg).1
        simpa using this
      simp [hlt] at hg
/-- a slice of integers does not lie in a block of slices -/
theorem rd_ne_row {b T : Nat} {A A1 A2 : Option Addr} {len n n1 c1 n2 c2 : Nat} {get : Nat → List Value} (hB : Blk w b T #[.slice A1 n1 c1, .slice A2 n2 c2]) (s : SlAt w A len n get) (h0 : ∃ k i, (get 0)[0]? = some (.int k i)) : InR (fun k => k ≠ b ∧ True) A len := fun b' off hl hA => ⟨fun e => by
  subst e
  obtain ⟨b2, off2, hA2, _, hc⟩ := s hl
  rw [hA] at hA2
  injection hA2 with e1
  injection e1 with e2 e3
  subst e2 e3
  obtain ⟨k, i, hg⟩ := h0
  have := hc 0 hl 0 _ hg
  rw [hB.cell] at this
  simp only [Nat.zero_mul, Nat.add_zero] at this
  match off, this with
  | 0, h => simp at h
  | 1, h => simp at h
  | n + 2, h => simp at h, trivial⟩
theorem out_scope_normal {Q : Exit → Act → World → Prop} {a : Act} {w : World} (h : Q .normal a w) : Exit.noGoto Q .normal a w := h
theorem out_scope_ret {Q : Exit → Act → World → Prop} {a : Act} {w : World} (h : Q .ret a w) : Exit.noGoto Q .ret a w := h
theorem out_scope_exit {Q : Exit → Act → World → Prop} {a : Act} {w : World} {i : Nat} (h : Q (.exit i) a w) : Exit.noGoto Q (.exit i) a w := h
end Go.Proofs.Ytlcccomdijdkaaa
