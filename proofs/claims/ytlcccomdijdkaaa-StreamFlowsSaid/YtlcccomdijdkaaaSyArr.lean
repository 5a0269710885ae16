/- An array of 168 integers in a block: its elements are read and written at whatever place; all of it is filled from a slice. -/
import Derived.Laws.CopyRow
import Derived.Laws.IdiomCopy
import Derived.Test.YtlcccomdijdkaaaSyNew
namespace Go.Proofs.Ytlcccomdijdkaaa
open Go.RowKit

variable {P : Program} {X : Ctx} {E : Env} {a : Act} {w : World} {st : SState}

def arrSV (L : List Int) : List SV := (List.range 168).map fun i => .v (.int .i64 (L.getD i 0))
def arrV (L : List Int) : Array Value := ((List.range 168).map fun i => Value.int .i64 (L.getD i 0)).toArray
/-- element i is x now -/
def arrUp (L : List Int) (i : Nat) (x : Int) : List Int := (List.range 168).map fun j => if j = i then x else L.getD j 0
/-- filled from a slice -/
def arrCopy (L room : List Int) : List Int := (List.range 168).map fun j => if j < room.length then room.getD j 0 else L.getD j 0
theorem arr_vals (E : Env) (L : List Int) : SV.vals E (arrSV L) = (arrV L).toList := by
  simp only [SV.vals_map, arrSV, arrV, List.map_map]
  rfl
theorem arr_valsA (E : Env) (L : List Int) : (SV.vals E (arrSV L)).toArray = arrV L := by rw [arr_vals]
theorem arr_size (L : List Int) : (arrV L).size = 168 := by simp [arrV]
theorem arr_get (L : List Int) {i : Nat} (hi : i < 168) : (arrV L)[i]? = some (.int .i64 (L.getD i 0)) := by
  simp [arrV, hi]
theorem arr_up (L : List Int) {i : Nat} (x : Int) (hi : i < 168) : (arrV L).toList.take i ++ [Value.int .i64 x] ++ (arrV L).toList.drop (i + 1) = (arrV (arrUp L i x)).toList := by
  have hl : (arrV L).toList.length = 168 := by simp [arrV]
  apply List.ext_getElem?
  intro j
  by_cases hj : j < 168
  · have h2 : (arrV (arrUp L i x)).toList[j]? = some (.int .i64 ((arrUp L i x).getD j 0)) := by rw [Array.getElem?_toList]; exact arr_get _ hj
    rw [h2]
    have h3 : (arrUp L i x).getD j 0 = if j = i then x else L.getD j 0 := by simp [arrUp, hj]
    rw [h3]
    by_cases h1 : j < i
    · rw [List.append_assoc, List.getElem?_append_left (by simp [hl]; omega), List.getElem?_take_of_lt h1, Array.getElem?_toList, arr_get L hj, if_neg (by omega)]
    · by_cases h4 : j = i
      · subst h4
        rw [List.append_assoc, List.getElem?_append_right (by simp [hl]; omega)]
        simp [hl, Nat.min_eq_left (Nat.le_of_lt hi)]
      · rw [List.getElem?_append_right (by simp [hl]; omega)]
        have e : j - ((arrV L).toList.take i ++ [Value.int .i64 x]).length = j - (i + 1) := by simp [hl]; omega
        rw [e, List.getElem?_drop, show i + 1 + (j - (i + 1)) = j by omega, Array.getElem?_toList, arr_get L hj, if_neg h4]
  · rw [List.getElem?_eq_none (by simp [hl]; omega), List.getElem?_eq_none (by simp [arrV]; omega)]
/-- an element's address -/
theorem pure_idx {lay : Lay} (hl : LayOK P lay) {B t g n : Nat} {m : MState} {x y : Operand} {k : IntKind} {i : Int} {z : List Value} {eq : Bool} {by' : Nat} (ht : look lay t = some ⟨.arr 168 1 false, n, z, eq, by'⟩) (hi : 0 ≤ i ∧ i < 168) : (Ob.pure m (.indexAddr t x y) [.own g 0, .v (.int k i)] (.own g i.toNat)).holds P B := by
  intro E w R ρ dst ty pos aft gd _ hx
  have hx' : ρ x = .pointer (some ⟨E.ρ g, 0, none⟩) ∧ ρ y = .int k i := by simpa [Op.operands, SV.vals, SV.val] using hx
  obtain ⟨u, hu, hmm⟩ := (hl t _ ht).under
  obtain ⟨e, rfl, hkn, hes, _⟩ := hmm
  simp only [execOp, Instr.indexAt, hx'.1, hx'.2, asIntOf, Sem.run_bind, Sem.run_pure, Result.andThen_ok, run_underlying hu, Instr.sureAddr]
  rw [if_pos (by omega)]
  simp only [Sem.run_bind, knownB.run_size hkn, Result.andThen_ok, Sem.run_pure, ← hes, add_plain', SV.val, Nat.mul_one, Nat.zero_add]
/-- an element is read -/
theorem pure_ldIdx {lay : Lay} (hl : LayOK P lay) {B t g T : Nat} {m : MState} {x : Operand} {i : Int} {L : List Int} {d : TyD} (ht : look lay t = some d) (hk : d.k = .int .i64) (hn : d.n = 1) (hm : look m.blks g = some (.blk T (arrSV L))) (hi : 0 ≤ i ∧ i < 168) : (Ob.pure m (.load t x) [.own g i.toNat] (.v (.int .i64 (L.getD i.toNat 0)))).holds P B := by
  intro E w R ρ dst ty pos aft gd hM hx
  have hx' : ρ x = .pointer (some ⟨E.ρ g, i.toNat, none⟩) := by simpa [Op.operands, SV.vals, SV.val] using hx
  have hB := hM.blk g _ _ hm
  rw [arr_valsA] at hB
  have := run_load_cells (E := E) (w := w) hl ht (b := E.ρ g) (ao := i.toNat) (off := 0) (cs := [.v (.int .i64 (L.getD i.toNat 0))]) (v := .v (.int .i64 (L.getD i.toNat 0))) (fun j y hj => by
    rw [hn] at hj
    cases j with
    | zero =>
      simp at hj
      subst hj
      rw [hB.cell, Nat.add_zero, arr_get L (by omega)]
      rfl
    | succ j => simp at hj) (by rw [hn]; simp) (.inr hn) (by rw [hk]; rfl)
  simp only [execOp, hx', Sem.run_bind, this, Result.andThen_ok, Sem.run_pure]
/-- all of it, as a slice -/
theorem pure_sliceArr {lay : Lay} (hl : LayOK P lay) {B t g n : Nat} {m : MState} {x : Operand} {z : List Value} {eq : Bool} {by' : Nat} (ht : look lay t = some ⟨.arr 168 1 false, n, z, eq, by'⟩) : (Ob.pure m (.slice t x none none none) [.own g 0] (.row g 0 168 168)).holds P B := by
  intro E w R ρ dst ty pos aft gd _ hx
  have hx' : ρ x = .pointer (some ⟨E.ρ g, 0, none⟩) := by simpa [Op.operands, SV.vals, SV.val] using hx
  obtain ⟨u, hu, hmm⟩ := (hl t _ ht).under
  obtain ⟨e, rfl, hkn, hes, _⟩ := hmm
  simp [execOp, Instr.sliceAt, Instr.sliceBounds, hx', Sem.run_bind, Sem.run_pure, Result.andThen_ok, run_underlying hu, Instr.sureAddr, knownB.run_size hkn, SV.val, Result.andThen, add_plain']
/-- an element is written -/
theorem sym_storeArr {lay : Lay} (hl : LayOK P lay) {ops l r : List Oper} {o : Oper} {Q : Exit → Act → World → Prop} (hL : l = o :: r) (x y : Operand) (t : TypeId) (ho : o.op = .store t x y) (hgd : o.guard = none) (hdst : o.dst = none)
    (S : St X st E a w) (g T : Nat) (i : Int) (L : List Int) (u : Int) (d : TyD) (hx : opnd st.slots x = some (.own g i.toNat)) (hy : opnd st.slots y = some (.v (.int .i64 u))) (hg : look st.m.blks g = some (.blk T (arrSV L))) (ht : look lay t = some d) (hn : d.n = 1) (hi : 0 ≤ i ∧ i < 168)
    (kk : ∀ a' w', St X { st with m := { st.m with blks := (g, .blk T (arrSV (arrUp L i.toNat u))) :: st.m.blks } } E a' w' → wpList P ops.toArray Q r a' w') : wpList P ops.toArray Q l a w := by
  subst hL
  have ev : ∀ z sv, opnd st.slots z = some sv → a.eval z = sv.val E := fun z sv hz => by
    cases z with
    | tmp t => simp only [opnd] at hz; have := S.slot t sv hz; simp [Act.eval, this]
    | const v => simp [opnd] at hz; subst hz; rfl
    | global g => simp [opnd] at hz; subst hz; rfl
    | func f => simp [opnd] at hz; subst hz; rfl
  have hB := S.mem.blk g _ _ hg
  have hB' := hB
  rw [arr_valsA] at hB'
  have hst := run_storeCells_at (P := P) (E.ρ g) i.toNat T [.int .i64 u] 0 (arrV L) w hB' (by simp [arr_size]; omega) (fun v hv => by simp at hv; subst hv; rfl)
  have hrun : (Instr.storeAt t (a.eval x) (a.eval y)).run P w = .ok () (w.setRow (E.ρ g) (SV.vals E (arrSV (arrUp L i.toNat u))).toArray) := by
    rw [ev x _ hx, ev y _ hy]
    unfold Instr.storeAt storeVar
    simp only [SV.val, Instr.sureAddr, Sem.run_bind, Sem.run_pure, Result.andThen_ok, (hl t d ht).run_size, Value.cells]
    have hsz1 : (#[Value.int IntKind.i64 u] : Array Value).size = d.n := by simp [hn]
    simp only [hsz1, ne_eq, not_true_eq_false, if_false]
    simp only [Nat.add_zero, List.length_cons, List.length_nil, Nat.zero_add] at hst
    rw [arr_up L u (by omega)] at hst
    rw [arr_valsA]
    simpa using hst
  have S' := StF.store S hg (arrSV (arrUp L i.toNat u))
  refine wpList_plain hgd fun K hK => ?_
  unfold Oper.wp
  have e : (execOp a.eval o).run P w = .ok .skip (w.setRow (E.ρ g) (SV.vals E (arrSV (arrUp L i.toNat u))).toArray) := by
    obtain ⟨dst, op, ty, pos, aft, gd⟩ := o
    simp only at ho
    subst ho
    simp only [execOp, Sem.run_bind, hrun, Result.andThen_ok, Sem.run_pure]
  rw [e]
  simp only [Oper.upon]
  refine hK _ _ (kk _ _ ?_)
  unfold St
  simp only [look_upd, hdst]
  have S2 := StF.putD (dst := none) S' (fun d h => by cases h) (.v undef)
  exact S2
/-- it is filled from a slice that is read -/
theorem sym_copyArr {lay : Lay} (hl : LayOK P lay) {ops l r : List Oper} {o : Oper} {Po : Exit → Act → World → Prop} (hL : l = o :: r) (x y : Operand) (t : TypeId) (ho : o.op = .call { callee := .builtin .copy, args := #[x, y], argTypes := #[t, t] }) (hgd : o.guard = none)
    (S : St X st E a w) (g T s : Nat) (L room : List Int) (q : Q) (hq1 : q = ⟨room.length, 1, fun i => [.int .i64 (room.getD i default)]⟩) {e0 es n0 : Nat} {z : List Value} {eq : Bool} {by' : Nat} (d : TyD) (hx : opnd st.slots x = some (.row g 0 168 168)) (hy : opnd st.slots y = some (.sl s)) (hq : look st.m.rds s = some q) (hg : look st.m.blks g = some (.blk T (arrSV L)))
    (ht : look lay t = some ⟨.sli e0 es, n0, z, eq, by'⟩) (hd : look lay e0 = some d) (hn : d.n = 1) (hlen : room.length ≤ 168) (hdn : ∀ e, o.dst = some e → e < X.n)
    (kk : ∀ a' w', St X { slots := (match o.dst with | some d => (d, .v (.int .i64 room.length)) :: st.slots | none => st.slots), m := { st.m with blks := (g, .blk T (arrSV (arrCopy L room))) :: st.m.blks } } E a' w' → wpList P ops.toArray Po r a' w') : wpList P ops.toArray Po l a w := by
  subst hL hq1
  have ev : ∀ z sv, opnd st.slots z = some sv → a.eval z = sv.val E := fun z sv hz => by
    cases z with
    | tmp t => simp only [opnd] at hz; have := S.slot t sv hz; simp [Act.eval, this]
    | const v => simp [opnd] at hz; subst hz; rfl
    | global g => simp [opnd] at hz; subst hz; rfl
    | func f => simp [opnd] at hz; subst hz; rfl
  have hB := S.mem.blk g _ _ hg
  have hB' := hB
  rw [arr_valsA] at hB'
  obtain ⟨u, hu, hmm⟩ := (hl t _ ht).under
  obtain ⟨rfl, hkn, hes⟩ := hmm
  obtain ⟨_, i, hi, his, _⟩ := (hl e0 d hd).size
  have hsz : (P.info? e0).map (·.size) = some 1 := by rw [hi]; simp [his, hn]
  obtain ⟨q1, q2, q3, q4⟩ := S.mem.rd s _ hq
  simp only at q1 q2 q3 q4
  obtain ⟨cs, hcs⟩ : ∃ cs : List Value, cs = room.map (Value.int .i64) := ⟨_, rfl⟩
  have hgetc : ∀ j v, cs[j]? = some v → v = .int .i64 (room.getD j default) ∧ j < room.length := fun j v hj => by
    rw [hcs, List.getElem?_map] at hj
    cases hr : room[j]? with
    | none => rw [hr] at hj; simp at hj
    | some y =>
      rw [hr] at hj
      simp at hj
      exact ⟨by rw [← hj]; simp [List.getD, hr], (List.getElem?_eq_some_iff.1 hr).1⟩
  have hclen : cs.length = room.length := by rw [hcs]; simp
  have hrow : (arrV L).toList.take 0 ++ cs ++ (arrV L).toList.drop (0 + cs.length) = (arrV (arrCopy L room)).toList := by
    have hl' : (arrV L).toList.length = 168 := by simp [arrV]
    apply List.ext_getElem?
    intro j
    rw [List.take_zero, List.nil_append, Nat.zero_add]
    by_cases hj : j < 168
    · have h2 : (arrV (arrCopy L room)).toList[j]? = some (.int .i64 ((arrCopy L room).getD j 0)) := by rw [Array.getElem?_toList]; exact arr_get _ hj
      rw [h2]
      have h3 : (arrCopy L room).getD j 0 = if j < room.length then room.getD j 0 else L.getD j 0 := by simp [arrCopy, hj]
      rw [h3]
      by_cases h1 : j < room.length
      · rw [List.getElem?_append_left (by omega), if_pos h1]
        cases hc : cs[j]? with
        | none => rw [List.getElem?_eq_none_iff] at hc; omega
        | some v => rw [(hgetc j v hc).1]; rfl
      · rw [List.getElem?_append_right (by omega), if_neg h1, List.getElem?_drop, show cs.length + (j - cs.length) = j by omega, Array.getElem?_toList, arr_get L hj]
    · rw [List.getElem?_eq_none (by simp [hl']; omega), List.getElem?_eq_none (by simp [arrV]; omega)]
  have hrun : (execOp a.eval o).run P w = .ok (.value (goInt room.length)) (w.setRow (E.ρ g) (SV.vals E (arrSV (arrCopy L room))).toArray) ∨ ((execOp a.eval o).run P w = .ok (.value (goInt room.length)) w ∧ arrSV (arrCopy L room) = arrSV L) := by
    obtain ⟨dst, op, ty, pos, aft, gd⟩ := o
    simp only at ho
    subst ho
    have e1 := ev x _ hx
    have e2 := ev y _ hy
    simp only [SV.val] at e1 e2
    rcases Nat.eq_zero_or_pos room.length with h0 | h0
    · right
      refine ⟨?_, ?_⟩
      · have := run_copy_none (P := P) w t t ty e0 (some ⟨E.ρ g, 0, none⟩) (E.sl s).A 168 168 (E.sl s).len (E.sl s).cap hu hsz (by rw [q1, h0]; rfl)
        simp [execOp, resolve, Sem.run_bind, e1, e2, Sem.run_pure, Result.andThen, invoke, builtin, this, h0]
      · have : arrCopy L room = (List.range 168).map fun j => L.getD j 0 := by simp [arrCopy, h0]
        unfold arrSV
        apply List.map_congr_left
        intro j hj
        rw [this]
        have := List.mem_range.1 hj
        simp [this]
    · left
      obtain ⟨b, off, hA, hlt, hc⟩ := q4 h0
      have := run_copy_row (P := P) w t t ty e0 (E.ρ g) 0 168 168 ⟨b, off, none⟩ room.length (E.sl s).cap (arrV L) T cs hu hsz hB' (by rw [hclen]; exact (Nat.min_eq_left hlen).symm) (fun j v hj => by
        obtain ⟨rfl, hjl⟩ := hgetc j v hj
        rw [add_plain']
        have := hc j hjl 0 _ (by simp; rfl)
        simpa using this) (by rw [arr_size, hclen]; omega) (fun v hv => by rw [hcs] at hv; obtain ⟨y, _, rfl⟩ := List.mem_map.1 hv; rfl)
      rw [hrow] at this
      rw [arr_valsA]
      simp [execOp, resolve, Sem.run_bind, e1, e2, Sem.run_pure, Result.andThen, invoke, builtin, hA, q1, this, hclen]
  refine wpList_plain hgd fun K hK => ?_
  unfold Oper.wp
  have S' := StF.store S hg (arrSV (arrCopy L room))
  rcases hrun with e | ⟨e, e2⟩
  · rw [e]
    simp only [Oper.upon]
    refine hK _ _ (kk _ _ ?_)
    have S2 := StF.putD (dst := o.dst) S' hdn (.v (.int .i64 room.length))
    unfold St
    cases hdst : o.dst with
    | none => rw [hdst] at S2; simp only [look_upd]; exact S2
    | some d => rw [hdst] at S2; simp only [look_upd]; exact S2
  · rw [e]
    simp only [Oper.upon]
    refine hK _ _ (kk _ _ ?_)
    have S3 : St X { st with m := { st.m with blks := (g, .blk T (arrSV (arrCopy L room))) :: st.m.blks } } E a w := S.recell hg (by rw [e2])
    have S2 := StF.putD (dst := o.dst) S3 hdn (.v (.int .i64 room.length))
    unfold St
    cases hdst : o.dst with
    | none => rw [hdst] at S2; exact S2
    | some d => rw [hdst] at S2; rw [look_upd]; exact S2
end Go.Proofs.Ytlcccomdijdkaaa
