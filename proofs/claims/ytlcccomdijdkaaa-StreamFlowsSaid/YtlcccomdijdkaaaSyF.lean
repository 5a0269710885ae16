/- The evaluator is right: every operation that it reckons. -/
import Derived.Laws.Slices
import Derived.Test.YtlcccomdijdkaaaSyE2
namespace Go.Proofs.Ytlcccomdijdkaaa
open Go.RowKit

variable {P : Program} {E : Env} {w : World}

theorem run_v {o : Oper} {ρ : Operand → Value} {s : Sem Value} {v : Value} {w' : World} (h : execOp ρ o = (do pure (.value (← s)))) (hs : s.run P w = .ok v w') : (execOp ρ o).run P w = .ok (.value v) w' := by
  rw [h]
  simp [hs, Result.andThen]

theorem projSV_ok {d : Nat} {want p : Bool} {x y : SV} {obs : List Ob} {B : Nat} (h : projSV d want p x = (y, obs)) (ho : AllOb P B obs) (hp : p = true) : x.val E = y.val E := by
  cases x with
  | gd d' want' W x =>
    simp only [projSV] at h
    split at h <;> simp only [Prod.mk.injEq] at h <;> obtain ⟨rfl, rfl⟩ := h
    · have := ho.1 hp
      simp [SV.val, this]
    · have := ho.1 hp
      simp [SV.val, this]
    · rfl
  | _ => simp only [projSV, Prod.mk.injEq] at h; obtain ⟨rfl, rfl⟩ := h; rfl
theorem pickSV_ok {d : Nat} {p : Bool} {x y v : SV} {obs : List Ob} {B : Nat} (h : pickSV d p x y = some (v, obs)) (ho : AllOb P B obs) : (if p = true then x.val E else y.val E) = v.val E := by
  unfold pickSV at h
  split at h
  · rename_i u o1 v' o2 h1 h2
    simp only [Option.some.injEq, Prod.mk.injEq] at h
    obtain ⟨rfl, rfl⟩ := h
    obtain ⟨ho1, ho2⟩ := AllOb.append ho
    cases p with
    | true => simp [projSV_ok (E := E) h1 ho1 rfl, SV.val]
    | false => simp [projSV_ok (E := E) h2 ho2 rfl, SV.val]
  · cases h
theorem at_val {s : Nat} {i : Int} {off b o : Nat} (hA : (E.sl s).A = some ⟨b, o, none⟩) : (SV.at s i off).val E = .pointer (some ⟨b, o + (i.toNat * (E.sl s).n + off), none⟩) := by
  simp [SV.val, hA]
theorem rd_at {q : Q} {r : RS} (h : RdAt w q r) {i : Int} (hi : 0 ≤ i ∧ i < q.len) : ∃ b off, r.A = some ⟨b, off, none⟩ ∧ b < w.heap.size ∧ r.n = q.n ∧ ∀ j v, (q.get i.toNat)[j]? = some v → w.cell? ⟨b, off + (i.toNat * q.n + j), none⟩ = some v := by
  obtain ⟨_, h1, _, h2⟩ := h
  obtain ⟨b, off, h3, h4, h5⟩ := h2 (by omega)
  exact ⟨b, off, h3, h4, h1, h5 _ (by omega)⟩

theorem run_fieldAt {t : TypeId} {d : TyD} {lay : Lay} (hl : LayOK P lay) (hd : look lay t = some d) {fs : List (Nat × Nat × Bool)} (hk : d.k = .str fs) {f fo fn : Nat} {ag : Bool} (hf : fs[f]? = some (fo, fn, ag)) (hn : fn ≠ 0) (b off : Nat) :
    (Instr.fieldAt t (.pointer (some ⟨b, off, none⟩)) f).run P w = .ok (.pointer (some ⟨b, off + fo, none⟩)) w := by
  obtain ⟨u, hu, hm⟩ := (hl t d hd).under
  rw [hk] at hm
  obtain ⟨F, rfl, hkn, hfs⟩ := hm
  subst hfs
  rw [List.getElem?_map] at hf
  cases hx : F.toList[f]? with
  | none => rw [hx] at hf; simp at hf
  | some x =>
    rw [hx] at hf
    simp only [Option.map_some, Option.some.injEq, Prod.mk.injEq] at hf
    obtain ⟨rfl, rfl, rfl⟩ := hf
    have hx' : F[f]? = some x := by rw [← Array.getElem?_toList]; exact hx
    have hs := knownB.run_size (hkn x (List.mem_of_getElem? hx)) w
    unfold Instr.fieldAt
    simp only [Sem.run_bind, run_underlying hu, Result.andThen_ok, hx', Instr.sureAddr, Sem.run_pure, fieldPlace, hs, if_neg hn, add_plain']

theorem evalOp0_sound {lay : Lay} {σ : List (Nat × SV)} {m : MState} {h : Hint} {o : Oper} {out : Out} {obs : List Ob} {a : Act} {B : Nat} (hl : LayOK P lay)
    (hev : evalOp0 lay σ m h o.op = some (out, obs)) (hs : ∀ x ∈ o.op.operands, ∀ sv, opnd σ x = some sv → a.eval x = sv.val E) (hm : Known E w m (touches0 σ h o.op)) (ho : AllOb P B obs) :
    DoesOut P E h.g w ((execOp a.eval o).run P w) out := by
  obtain ⟨dst, op, type, pos, after, guard⟩ := o
  simp only at hev hs hm
  have hgr : Nice E m := ⟨fun k q hq => by
    obtain ⟨B, hB⟩ := hm.gr k q hq
    obtain ⟨A, c, e⟩ := gr_slice hB
    exact ⟨A, _, c, e⟩, hm.one⟩
  cases op <;> simp only [evalOp0, reduceCtorEq] at hev
  case move x =>
    split at hev
    · rename_i v hv
      simp only [Option.some.injEq, Prod.mk.injEq] at hev
      obtain ⟨rfl, rfl⟩ := hev
      simp [DoesOut, execOp, hs x (by simp [Op.operands]) v hv]
    · cases hev
  case assign x =>
    split at hev
    · rename_i v hv
      simp only [Option.some.injEq, Prod.mk.injEq] at hev
      obtain ⟨rfl, rfl⟩ := hev
      simp [DoesOut, execOp, hs x (by simp [Op.operands]) v hv]
    · cases hev
  case pick c x y =>
    cases hpk : h.pk with
    | true =>
      rw [hpk] at hev
      simp only at hev
      cases c <;> simp only [reduceCtorEq] at hev
      case tmp d =>
        split at hev
        · rename_i p sx sy hc hx hy
          split at hev
          · rename_i v ob hp
            simp only [Option.some.injEq, Prod.mk.injEq] at hev
            obtain ⟨rfl, rfl⟩ := hev
            have hc := hs (.tmp d) (by simp [Op.operands]) _ (show opnd σ (.tmp d) = _ from hc)
            have hx := hs x (by simp [Op.operands]) _ hx
            have hy := hs y (by simp [Op.operands]) _ hy
            have hv := pickSV_ok hp ho (E := E)
            simp only [DoesOut, execOp, hc, hx, hy, SV.val, asBool, Sem.run_bind, Sem.run_pure, Result.andThen_ok, hv]
          · cases hev
        · cases hev
    | false =>
    rw [hpk] at hev
    simp only at hev
    split at hev
    · rename_i hc
      have hc := hs c (by simp [Op.operands]) _ hc
      split at hev
      · rename_i v hv
        simp only [Option.some.injEq, Prod.mk.injEq] at hev
        obtain ⟨rfl, rfl⟩ := hev
        have hv := hs x (by simp [Op.operands]) _ hv
        simp [DoesOut, execOp, hc, hv, SV.val, asBool, Sem.run_pure]
      · cases hev
    · rename_i hc
      have hc := hs c (by simp [Op.operands]) _ hc
      split at hev
      · rename_i v hv
        simp only [Option.some.injEq, Prod.mk.injEq] at hev
        obtain ⟨rfl, rfl⟩ := hev
        have hv := hs y (by simp [Op.operands]) _ hv
        simp [DoesOut, execOp, hc, hv, SV.val, asBool, Sem.run_pure]
      · cases hev
    · cases hev
  case alloc t =>
    split at hev
    · rename_i d hd
      simp only [Option.some.injEq, Prod.mk.injEq] at hev
      obtain ⟨rfl, rfl⟩ := hev
      obtain ⟨z, hz, hc⟩ := (hl t d hd).run_zero w
      refine ⟨.pointer (some ⟨w.heap.size, 0, none⟩), run_v rfl ?_, fun E' he => by simp [SV.val, he]⟩
      simp only [Instr.alloc, Sem.run_bind, hz, Result.andThen_ok, newVar, newRow, run_newObj_alloc, Sem.run_pure, vals_v]
      rw [← hc]
    · cases hev
  case box t x =>
    split at hev
    · rename_i v hv
      split at hev
      · rename_i cs hcs
        simp only [Option.some.injEq, Prod.mk.injEq] at hev
        obtain ⟨rfl, rfl⟩ := hev
        refine ⟨.pointer (some ⟨w.heap.size, 0, none⟩), run_v rfl ?_, fun E' he => by simp [SV.val, he]⟩
        simp only [Instr.box, hs x (by simp [Op.operands]) _ hv, Sem.run_bind, Result.andThen_ok, newVar, newRow, run_newObj_alloc, Sem.run_pure, (cellsSV_ok hgr hcs).1]
      · cases hev
    · cases hev
  case build t ps =>
    split at hev
    · rename_i fs n z eq by' hd
      split at hev
      · rename_i qs hq
        split at hev
        · rename_i cs hf
          simp only [Option.some.injEq, Prod.mk.injEq] at hev
          obtain ⟨rfl, rfl⟩ := hev
          obtain ⟨zv, hz, hc⟩ := (hl t _ hd).run_zero w
          obtain ⟨u, hu, hmm⟩ := (hl t _ hd).under
          obtain ⟨F, rfl, hkn, hfs⟩ := hmm
          refine run_v rfl ?_
          have hps := opndsP_ok (ev := a.eval) hq (fun x hx => hs x.2 (by simp [Op.operands]; exact ⟨x.1, by simpa using hx⟩))
          have hfill := fill_ok (m := m) hgr (place := fun i => (F.map fun f => (f.offset, P.cellsOf f.type))[i]?) (fun i o n b hi => by
            rw [hfs, List.getElem?_map] at hi
            cases hx : F.toList[i]? with
            | none => rw [hx] at hi; simp at hi
            | some x =>
              rw [hx] at hi
              simp only [Option.map_some, Option.some.injEq, Prod.mk.injEq] at hi
              have hx' : F[i]? = some x := by rw [← Array.getElem?_toList]; exact hx
              simp [Array.getElem?_map, hx', hi.1, hi.2.1]) qs _ _ hf
          unfold Instr.build
          simp only [Sem.run_bind, hz, Result.andThen_ok, run_underlying hu, run_mapM_places F hkn]
          have e1 : zv.cells = (SV.vals E (z.map SV.v)).toArray := by rw [vals_v]; apply Array.ext'; simpa using hc
          have e2 : (ps.map fun x => (x.1, a.eval x.2)).toList = qs.map (fun (i, v) => (i, v.val E)) := by rw [← hps]; simp
          simp only [e1, e2, hfill, Sem.run_pure, SV.val]
        · cases hev
      · cases hev
    · cases hev
  case load t x =>
    split at hev
    · rename_i d g off hd hx
      split at hev
      · rename_i ty cs hg
        split at hev
        · rename_i hb
          split at hev
          · rename_i v hv
            simp only [Option.some.injEq, Prod.mk.injEq] at hev
            obtain ⟨rfl, rfl⟩ := hev
            simp only [Bool.and_eq_true, Nat.ble_eq, Bool.or_eq_true, Nat.beq_eq] at hb
            have hB := hm.blk g (by simp [touches0, hx]) _ _ hg
            refine run_v rfl ?_
            rw [hs x (by simp [Op.operands]) _ hx]
            exact run_load_cells hl hd (fun j y hy => by
              rw [hB.cell]
              have : cs[off + j]? = some y := by
                rw [List.getElem?_take] at hy
                split at hy
                · rwa [List.getElem?_drop] at hy
                · cases hy
              simp [vals_get, this]) hb.1 hb.2 hv
          · cases hev
        · cases hev
      · cases hev
    · rename_i d s i off hd hx
      split at hev
      · rename_i q hq
        split at hev
        · rename_i hb
          split at hev
          · rename_i v hv
            simp only [Option.some.injEq, Prod.mk.injEq] at hev
            obtain ⟨rfl, rfl⟩ := hev
            simp only [Bool.and_eq_true, Nat.ble_eq, Bool.or_eq_true, Nat.beq_eq] at hb
            obtain ⟨b, o, hA, _, hn, hc⟩ := rd_at (hm.rd s q hq) ho.1
            refine run_v rfl ?_
            rw [hs x (by simp [Op.operands]) _ hx, at_val hA]
            refine run_load_cells hl hd (cs := (q.get i.toNat).map SV.v) (off := off) (b := b) (fun j y hy => ?_) (by simpa using hb.1) hb.2 hv
            rw [List.getElem?_take] at hy
            split at hy
            · rw [List.getElem?_drop, List.getElem?_map] at hy
              cases hz : (q.get i.toNat)[off + j]? with
              | none => rw [hz] at hy; simp at hy
              | some z =>
                rw [hz] at hy
                simp only [Option.map_some, Option.some.injEq] at hy
                subst hy
                rw [hn, Nat.add_assoc, Nat.add_assoc]
                exact hc _ _ hz
            · cases hy
          · cases hev
        · cases hev
      · cases hev
    · cases hev
  case store t x y =>
    split at hev
    · rename_i d g off v hd hx hy
      split at hev
      · rename_i ty cs vs hg hc
        split at hev
        · rename_i hb
          simp only [Option.some.injEq, Prod.mk.injEq] at hev
          obtain ⟨rfl, rfl⟩ := hev
          simp only [Bool.and_eq_true, Nat.ble_eq, Nat.beq_eq] at hb
          have hB := hm.blk g (by simp [touches0, hx]) _ _ hg
          obtain ⟨e1, e2⟩ := cellsSV_ok hgr hc
          have hst := run_storeCells_at (P := P) (E.ρ g) off ty (SV.vals E vs) 0 (SV.vals E cs).toArray w hB (by simp [vals_length]; omega) e2
          have hrun : (Instr.storeAt t (a.eval x) (a.eval y)).run P w = .ok () (w.setRow (E.ρ g) ((SV.vals E cs).take off ++ SV.vals E vs ++ (SV.vals E cs).drop (off + vs.length)).toArray) := by
            rw [hs x (by simp [Op.operands]) _ hx, hs y (by simp [Op.operands]) _ hy]
            unfold Instr.storeAt storeVar
            simp only [SV.val, Instr.sureAddr, Sem.run_bind, Sem.run_pure, Result.andThen_ok, (hl t d hd).run_size, e1]
            rw [if_neg (by simp [vals_length, hb.1])]
            simp only [Nat.add_zero, vals_length] at hst
            exact hst
          simp only [DoesOut, execOp, Sem.run_bind, hrun, Result.andThen_ok, Sem.run_pure]
        · cases hev
      · cases hev
    · cases hev
  case nilCheck x =>
    split at hev
    · rename_i g off hx
      simp only [Option.some.injEq, Prod.mk.injEq] at hev
      obtain ⟨rfl, rfl⟩ := hev
      simp only [DoesOut, execOp, hs x (by simp [Op.operands]) _ hx, SV.val, Sem.run_pure]
    · rename_i s i off hx
      split at hev
      · rename_i q hq
        simp only [Option.some.injEq, Prod.mk.injEq] at hev
        obtain ⟨rfl, rfl⟩ := hev
        obtain ⟨b, o, hA, _⟩ := rd_at (hm.rd s q hq) ho.1
        simp only [DoesOut, execOp, hs x (by simp [Op.operands]) _ hx, at_val hA, Sem.run_pure]
      · cases hev
    · rename_i b hx
      simp only [Option.some.injEq, Prod.mk.injEq] at hev
      obtain ⟨rfl, rfl⟩ := hev
      simp only [DoesOut, execOp, hs x (by simp [Op.operands]) _ hx, SV.val, Sem.run_pure]
    · cases hev
  case slice t x lo hi mx =>
    cases mx with
    | some z => simp at hev
    | none =>
    simp only at hev
    split at hev
    · rename_i el es n z eq by' s hd hx
      split at hev
      · rename_i q hq
        split at hev
        · rename_i la lb hla hlb
          split at hev
          · rename_i hes
            simp only [Option.some.injEq, Prod.mk.injEq] at hev
            obtain ⟨rfl, rfl⟩ := hev
            obtain ⟨⟨h0, h1, h2⟩, _⟩ := ho
            have hes := Nat.eq_of_beq_eq_true hes
            subst hes
            obtain ⟨u, hu, hmm⟩ := (hl t _ hd).under
            obtain ⟨rfl, hkn, hcs⟩ := hmm
            have hel : P.elem t = el := by simp [Program.elem, hu]
            have hu' : P.underlying t = some (.slice (P.elem t)) := by rw [hel]; exact hu
            have hsz : (sizeOf (P.elem t)).run P w = .ok q.n w := by
              rw [hel, hcs]
              exact knownB.run_size hkn w
            obtain ⟨r1, r2, r3, _⟩ := hm.rd s q hq
            have hxv : a.eval x = .slice (E.sl s).A q.len (E.sl s).cap := by
              rw [hs x (by simp [Op.operands]) _ hx]
              simp only [SV.val, r1]
            have hbound : ∀ (z : Option Operand) (dd v : Int), (∀ y, z = some y → y ∈ (Op.slice t x lo hi none).operands) → boundSV σ z dd = some v → (z = none ∧ v = dd) ∨ ∃ y, z = some y ∧ a.eval y = .int .i64 v := fun z dd v hmem hb => by
              cases z with
              | none => simp only [boundSV, Option.some.injEq] at hb; exact .inl ⟨rfl, hb.symm⟩
              | some y =>
                simp only [boundSV] at hb
                split at hb
                · rename_i c hc
                  simp only [Option.some.injEq] at hb
                  subst hb
                  exact .inr ⟨y, rfl, hs y (hmem y rfl) _ hc⟩
                · cases hb
            obtain ⟨na, rfl⟩ : ∃ n : Nat, la = n := ⟨la.toNat, (Int.toNat_of_nonneg h0).symm⟩
            obtain ⟨nb, rfl⟩ : ∃ n : Nat, lb = n := ⟨lb.toNat, (Int.toNat_of_nonneg (Int.le_trans h0 h1)).symm⟩
            simp only [Int.toNat_natCast]
            have hr : (Instr.slice t (.slice (E.sl s).A q.len (E.sl s).cap) (lo.map a.eval) (hi.map a.eval) none).run P w = .ok (sliced (E.sl s).A na nb (E.sl s).cap q.n) w := by
              rcases hbound lo 0 _ (fun y hy => by subst hy; simp [Op.operands]) hla with ⟨rfl, e1⟩ | ⟨y, rfl, e1⟩ <;> rcases hbound hi q.len _ (fun y hy => by subst hy; simp [Op.operands]) hlb with ⟨rfl, e2⟩ | ⟨y', rfl, e2⟩
              · have e1' : na = 0 := by omega
                have e2' : nb = q.len := by omega
                subst e1'
                subst e2'
                simp only [Option.map_none]
                rw [run_slice_all (P := P) (w := w) t (E.sl s).A q.len (E.sl s).cap hu', hsz]
                simp [Result.andThen]
              · have e1' : na = 0 := by omega
                subst e1'
                simp only [Option.map_none, Option.map_some, e2]
                rw [run_slice_h (P := P) (w := w) t (E.sl s).A q.len (E.sl s).cap hu' .i64 (nb : Int) (by omega) (by omega), hsz]
                simp [Result.andThen]
              · have e2' : nb = q.len := by omega
                subst e2'
                simp only [Option.map_none, Option.map_some, e1]
                rw [run_slice_l (P := P) (w := w) t (E.sl s).A q.len (E.sl s).cap hu' .i64 (na : Int) h0 (by omega), hsz]
                simp [Result.andThen]
              · simp only [Option.map_some, e1, e2]
                rw [run_slice_lh (P := P) (w := w) t (E.sl s).A q.len (E.sl s).cap hu' .i64 .i64 (na : Int) (nb : Int) h0 h1 (by omega), hsz]
                simp [Result.andThen]
            simp only [DoesOut, execOp, hxv, Option.map_none, Sem.run_bind, run_sliceAt_slice _ t _ _ _ _ hu', hr, Result.andThen_ok, Sem.run_pure, SV.val, subV, sliced, r2]
          · cases hev
        · cases hev
      · cases hev
    · cases hev
  case binOp op t x y yt =>
    split at hev
    · rename_i u v hx hy
      split at hev
      · rename_i r ob hr
        simp only [Option.some.injEq, Prod.mk.injEq] at hev
        obtain ⟨rfl, rfl⟩ := hev
        refine run_v rfl ?_
        rw [hs x (by simp [Op.operands]) _ hx, hs y (by simp [Op.operands]) _ hy]
        exact run_evBin hl hr ho
      · cases hev
    · cases hev
  case unOp op t x =>
    cases op <;> simp only [reduceCtorEq] at hev
    case not =>
      split at hev
      · rename_i b hx
        simp only [Option.some.injEq, Prod.mk.injEq] at hev
        obtain ⟨rfl, rfl⟩ := hev
        refine run_v rfl ?_
        rw [hs x (by simp [Op.operands]) _ hx]
        simp [Op.unary, SV.val, Sem.run_pure]
      · cases hev
    case neg =>
      split at hev
      · rename_i k e hx
        simp only [Option.some.injEq, Prod.mk.injEq] at hev
        obtain ⟨rfl, rfl⟩ := hev
        refine run_v rfl ?_
        rw [hs x (by simp [Op.operands]) _ hx]
        simp only [SV.val, Op.unary, Op.intArith]
        cases hw : h.w with
        | true => simp [ar, SV.val, Sem.run_pure]
        | false => rw [hw] at ho; simp [ar, AllOb, Ob.holds] at ho; simp [ar, SV.val, Sem.run_pure, ho]
      · cases hev
  case fieldAddr t x f =>
    split at hev
    · rename_i fs n z eq by' g off hd hx
      split at hev
      · rename_i fo fn ag hf
        split at hev
        · rename_i hb
          simp only [Option.some.injEq, Prod.mk.injEq] at hev
          obtain ⟨rfl, rfl⟩ := hev
          refine run_v rfl ?_
          rw [hs x (by simp [Op.operands]) _ hx]
          exact run_fieldAt hl hd rfl hf (fun e => by subst e; simp at hb) _ _
        · cases hev
      · cases hev
    · rename_i fs n z eq by' s i off hd hx
      split at hev
      · rename_i fo fn ag q hf hq
        split at hev
        · rename_i hb
          simp only [Option.some.injEq, Prod.mk.injEq] at hev
          obtain ⟨rfl, rfl⟩ := hev
          obtain ⟨b, o, hA, _⟩ := rd_at (hm.rd s q hq) ho.1
          refine run_v rfl ?_
          rw [hs x (by simp [Op.operands]) _ hx, at_val hA, at_val hA]
          rw [run_fieldAt hl hd rfl hf (fun e => by subst e; simp at hb)]
          simp [Nat.add_assoc]
        · cases hev
      · cases hev
    · cases hev
  case field t x f =>
    split at hev
    · rename_i fs n z eq by' xs hd hx
      split at hev
      · rename_i fo fn ag hf
        split at hev
        · rename_i v hv
          simp only [Option.some.injEq, Prod.mk.injEq] at hev
          obtain ⟨rfl, rfl⟩ := hev
          refine run_v rfl ?_
          rw [hs x (by simp [Op.operands]) _ hx]
          obtain ⟨u, hu, hmm⟩ := (hl t _ hd).under
          obtain ⟨F, rfl, hkn, hfs⟩ := hmm
          subst hfs
          rw [List.getElem?_map] at hf
          cases hx' : F.toList[f]? with
          | none => rw [hx'] at hf; simp at hf
          | some y =>
            rw [hx'] at hf
            simp only [Option.map_some, Option.some.injEq, Prod.mk.injEq] at hf
            obtain ⟨rfl, rfl, rfl⟩ := hf
            have hy : F[f]? = some y := by rw [← Array.getElem?_toList]; exact hx'
            have hk := hkn y (List.mem_of_getElem? hx')
            unfold Instr.field
            simp only [Sem.run_bind, run_underlying hu, Result.andThen_ok, hy, SV.val, asAgg, Sem.run_pure]
            unfold part
            have hk2 := hk
            simp only [knownB, Bool.and_eq_true, Option.isSome_iff_exists] at hk2
            simp only [Sem.run_bind, run_isAgg hk2.2, Result.andThen_ok]
            cases ha : aggB P y.type with
            | true =>
              rw [ha] at hv
              simp only [partSV, Option.some.injEq] at hv
              subst hv
              have : (SV.vals E xs).toArray.extract y.offset (y.offset + P.cellsOf y.type) = (SV.vals E ((xs.drop y.offset).take (P.cellsOf y.type))).toArray := by
                apply Array.ext'
                simp [vals_take, vals_drop, List.take_drop]
              simp only [if_true, Sem.run_bind, knownB.run_size hk, Result.andThen_ok, this]
              rfl
            | false =>
              rw [ha] at hv
              simp only [partSV] at hv
              have : (SV.vals E xs).toArray[y.offset]? = some (v.val E) := by simp [vals_get, hv]
              simp [this, go_sem]
        · cases hev
      · cases hev
    · cases hev
  case indexAddr t x i =>
    split at hev
    · rename_i el es n z eq by' s ik i' hd hx hi
      split at hev
      · rename_i q hq
        split at hev
        · rename_i hb
          simp only [Option.some.injEq, Prod.mk.injEq] at hev
          obtain ⟨rfl, rfl⟩ := hev
          have hb := Nat.eq_of_beq_eq_true hb
          obtain ⟨b, o, hA, _, hn, _⟩ := rd_at (hm.rd s q hq) ho.1
          obtain ⟨u, hu, hmm⟩ := (hl t _ hd).under
          obtain ⟨rfl, hkn, hes⟩ := hmm
          have hlen := (hm.rd s q hq).1
          have hi' : 0 ≤ i' ∧ i' < q.len := ho.1
          refine run_v rfl ?_
          rw [hs x (by simp [Op.operands]) _ hx, hs i (by simp [Op.operands]) _ hi, at_val hA]
          unfold Instr.indexAt
          simp only [SV.val, asIntOf, Sem.run_bind, Sem.run_pure, Result.andThen_ok, run_underlying hu, hA]
          rw [if_pos (by rw [hlen]; exact hi')]
          simp only [Sem.run_bind, knownB.run_size hkn, Result.andThen_ok, Sem.run_pure, add_plain', Nat.add_zero]
          rw [← hes, hb, hn]
        · cases hev
      · cases hev
    · cases hev
  case convert src dst x =>
    split at hev
    · rename_i ks n1 z1 e1 y1 k n2 z2 e2 y2 k' b h1 h2 hx
      simp only [Option.some.injEq, Prod.mk.injEq] at hev
      obtain ⟨rfl, rfl⟩ := hev
      obtain ⟨u1, hu1, hm1⟩ := (hl src _ h1).under
      obtain ⟨u2, hu2, hm2⟩ := (hl dst _ h2).under
      simp only at hm1 hm2
      subst hm1 hm2
      refine run_v rfl ?_
      rw [hs x (by simp [Op.operands]) _ hx]
      simp only [SV.val, Go.convert, Sem.run_bind, run_underlying hu1, run_underlying hu2, Result.andThen_ok, Conv.intToInt]
      cases hw : h.w with
      | true => simp [ar, SV.val, Sem.run_pure]
      | false => rw [hw] at ho; simp [ar, AllOb, Ob.holds] at ho; simp [ar, SV.val, Sem.run_pure, ho]
    · cases hev
  case buildSlice t len ps =>
    split at hev
    · rename_i hb0
      split at hev
      · rename_i e es n z eq by' hd
        simp only [Option.some.injEq, Prod.mk.injEq] at hev
        obtain ⟨rfl, rfl⟩ := hev
        simp only [Bool.and_eq_true, Nat.beq_eq, List.isEmpty_iff] at hb0
        obtain ⟨rfl, hps⟩ := hb0
        obtain ⟨u, hu, hmm⟩ := (hl t _ hd).under
        obtain ⟨rfl, hkn, hes⟩ := hmm
        refine ⟨.slice (some ⟨w.heap.size, 0, none⟩) 0 0, run_v rfl ?_, fun E' he => by simp [SV.val, he]⟩
        have e2 : (ps.map fun x => (x.1, a.eval x.2)).toList = [] := by simp [hps]
        unfold Instr.buildSlice
        simp only [Sem.run_bind, run_underlying hu, Result.andThen_ok, knownB.run_size hkn, ← hes]
        rw [if_neg (by omega), if_pos (Nat.zero_mul _)]
        simp only [Sem.run_bind, Sem.run_pure, Result.andThen_ok, e2]
        simp [Instr.fill, newRow, run_newObj_alloc, SV.vals, Result.andThen]
        have e3 : (Array.range 0).map (fun _ => (default : Value)) = #[] := by apply Array.ext'; simp [Array.range]
        rw [e3]
      · cases hev
    split at hev
    · rename_i e es n z eq by' qs hd hq
      split at hev
      · rename_i d cs hde hc
        split at hev
        · rename_i hb
          simp only [Option.some.injEq, Prod.mk.injEq] at hev
          obtain ⟨rfl, rfl⟩ := hev
          simp only [Bool.and_eq_true, Nat.beq_eq, Nat.ble_eq, Bool.not_eq_true'] at hb
          obtain ⟨⟨⟨⟨b1, b2⟩, b3⟩, b4⟩, b5⟩ := hb
          obtain ⟨u, hu, hmm⟩ := (hl t _ hd).under
          obtain ⟨rfl, hkn, hes⟩ := hmm
          obtain ⟨zv, hz, hzc⟩ := (hl e _ hde).run_zero w
          have hne : len ≠ 0 := fun h => by subst h; simp at b4
          have hne2 : es ≠ 0 := fun h => by subst h; simp at b5
          refine ⟨.slice (some ⟨w.heap.size, 0, none⟩) len len, run_v rfl ?_, fun E' he => by simp [SV.val, he]⟩
          have hps := opndsP_ok (ev := a.eval) hq (fun x hx => hs x.2 (by simp [Op.operands]; exact ⟨x.1, by simpa using hx⟩))
          have e2 : (ps.map fun x => (x.1, a.eval x.2)).toList = qs.map (fun (i, v) => (i, v.val E)) := by rw [← hps]; simp
          have hcc := concat_fill (E := E) hgr qs 0 cs es ((Array.range (len * es)).map (zv.cells[· % zv.cells.size]!)) hc (by simp; rw [← b1]; omega)
          unfold Instr.buildSlice
          simp only [Sem.run_bind, run_underlying hu, Result.andThen_ok, knownB.run_size hkn, ← hes]
          rw [if_neg (by omega)]
          rw [if_neg (Nat.mul_ne_zero hne hne2)]
          simp only [Sem.run_bind, hz, Result.andThen_ok, Sem.run_pure, e2]
          rw [hcc]
          simp only [Sem.run_bind, newRow, run_newObj_alloc, Result.andThen_ok, Sem.run_pure]
          congr 4
          rw [Nat.zero_mul, List.take_zero, List.nil_append, List.drop_of_length_le (by simp; rw [b1]; exact Nat.le_refl _), List.append_nil]
        · cases hev
      · cases hev
    · cases hev
  case extract x i =>
    split at hev
    · rename_i xs hx
      split at hev
      · rename_i v hv
        simp only [Option.some.injEq, Prod.mk.injEq] at hev
        obtain ⟨rfl, rfl⟩ := hev
        refine run_v rfl ?_
        rw [hs x (by simp [Op.operands]) _ hx]
        have : (SV.vals E xs).toArray[i]? = some (v.val E) := by simp [vals_get, hv]
        simp [Instr.extract, SV.val, this, Sem.run_pure]
      · cases hev
    · cases hev
  case makeFunc fn first cap =>
    cases fn <;> simp only [reduceCtorEq] at hev
    split at hev
    · rename_i cs hf hc
      simp only [Option.some.injEq, Prod.mk.injEq] at hev
      obtain ⟨rfl, rfl⟩ := hev
      refine run_v rfl ?_
      have e1 := opnds_ok (ev := a.eval) hc (fun x hx => hs x (by simp [Op.operands]; exact .inr (by simpa using hx)))
      have e2 : first = #[] := by apply Array.ext'; simpa using hf
      subst e2
      have e3 : cap.map a.eval = (SV.vals E cs).toArray := by apply Array.ext'; simpa using e1
      simp [Instr.makeFunc, e3, SV.val, Sem.run_pure]
    · cases hev
  case call c =>
    obtain ⟨callee, args, ts⟩ := c
    have hargs : ∀ vs, opnds σ args.toList = some vs → args.map a.eval = (SV.vals E vs).toArray := fun vs hv => by
      apply Array.ext'
      have := opnds_ok (ev := a.eval) hv (fun x hx => hs x (by cases callee <;> simp [Op.operands, Call.operands] <;> exact (by first | exact .inr (by simpa using hx) | simpa using hx)))
      simpa using this
    cases callee with
    | value x =>
      simp only at hev
      split at hev
      · rename_i f first cap vs hx hv
        split at hev
        · rename_i hf
          have key : EntersOK P f → (execOp a.eval { dst := dst, op := .call ⟨.value x, args, ts⟩, type := type, pos := pos, after := after, guard := guard }).run P w = .ok (.enter f (SV.vals E (vs ++ cap.toList.map SV.v)).toArray) w := fun hent => by
            have e2 : first = #[] := by apply Array.ext'; simpa using hf
            subst e2
            have hx := hs x (by simp [Op.operands, Call.operands]) _ hx
            simp only [execOp, resolve, Sem.run_bind, hargs vs hv, hx, SV.val, Deferred.ofValue, Sem.run_pure, Result.andThen_ok, invoke]
            rw [show ((#[] : Array Value) ++ (SV.vals E vs).toArray ++ cap) = (SV.vals E (vs ++ cap.toList.map SV.v)).toArray from by apply Array.ext'; simp [vals_append, vals_v]]
            exact hent _ _
          split at hev <;> simp only [Option.some.injEq, Prod.mk.injEq] at hev <;> obtain ⟨rfl, rfl⟩ := hev <;> exact key
        · cases hev
      · rename_i f cap vs hx hv
        have key : EntersOK P f → (execOp a.eval { dst := dst, op := .call ⟨.value x, args, ts⟩, type := type, pos := pos, after := after, guard := guard }).run P w = .ok (.enter f (SV.vals E (vs ++ cap)).toArray) w := fun hent => by
          have hx := hs x (by simp [Op.operands, Call.operands]) _ hx
          simp only [execOp, resolve, Sem.run_bind, hargs vs hv, hx, SV.val, Deferred.ofValue, Sem.run_pure, Result.andThen_ok, invoke]
          rw [show ((#[] : Array Value) ++ (SV.vals E vs).toArray ++ (SV.vals E cap).toArray) = (SV.vals E (vs ++ cap)).toArray from by apply Array.ext'; simp [vals_append]]
          exact hent _ _
        split at hev <;> simp only [Option.some.injEq, Prod.mk.injEq] at hev <;> obtain ⟨rfl, rfl⟩ := hev <;> exact key
      · cases hev
    | invoke x n => simp only [reduceCtorEq] at hev
    | builtin b =>
      cases b <;> simp only [reduceCtorEq] at hev
      case append =>
        split at hev
        · rename_i t t' g s hts hav
          split at hev
          · rename_i e es n z eq by' q htt hlt hq
            split at hev
            · rename_i d hde
              split at hev
              · rename_i hb
                simp only [Option.some.injEq, Prod.mk.injEq] at hev
                obtain ⟨rfl, rfl⟩ := hev
                have := Nat.eq_of_beq_eq_true htt
                subst this
                simp only [Bool.and_eq_true, Nat.beq_eq] at hb
                obtain ⟨b1, b2⟩ := hb
                obtain ⟨u, hu, hmm⟩ := (hl t _ hlt).under
                obtain ⟨rfl, hkn, hes⟩ := hmm
                obtain ⟨_, i, hi, his, zv, hzv, hzc⟩ := (hl e d hde).size
                have hby : i.bytes = d.by' := by have := (hl e d hde).bytes; simpa [Program.bytesOf, hi] using this
                obtain ⟨⟨o1, o2, o3⟩, _⟩ := ho
                obtain ⟨v', w', hrun, k1, k2, k3⟩ := append_copy (P := P) (ty := type) hu hi hzv ⟨E.ρ g, 0, none⟩ q (E.sl s) (hm.rd s q hq) (by omega) o1 o2 (by rw [hby]; exact o3)
                have e1 : ts = #[t, t] := by apply Array.ext'; simpa using hts
                subst e1
                have e2 := hargs _ hav
                simp only [SV.vals, SV.val] at e2
                refine ⟨fun _ => v', w', ?_, k1, fun _ => k2, k3⟩
                simp only [execOp, resolve, Sem.run_bind, e2, Sem.run_pure, Result.andThen_ok, invoke, builtin, hrun, SV.val, Env.updX, if_true]
              · cases hev
            · cases hev
          · cases hev
        · cases hev
      case len =>
        have key : ∀ (t : TypeId) (v : SV) (A : Option Addr) (n c : Nat), ts.toList = [t] → opnds σ args.toList = some [v] → v.val E = .slice A n c → (∃ el es m z eq by', look lay t = some ⟨.sli el es, m, z, eq, by'⟩) →
            (execOp a.eval { dst := dst, op := .call ⟨.builtin .len, args, ts⟩, type := type, pos := pos, after := after, guard := guard }).run P w = .ok (.value (.int .i64 n)) w := fun t v A n c h1 h2 h3 ⟨el, es, m', z, eq, by', h4⟩ => by
          obtain ⟨u, hu, hmm⟩ := (hl t _ h4).under
          obtain ⟨rfl, _⟩ := hmm
          have e1 : ts = #[t] := by apply Array.ext'; simpa using h1
          subst e1
          have e2 := hargs _ h2
          simp only [SV.vals, h3] at e2
          simp only [execOp, resolve, Sem.run_bind, e2, Sem.run_pure, Result.andThen_ok, invoke, builtin, Builtin.len_]
          simp [run_underlying hu, goInt, go_sem]
        split at hev
        · rename_i t s h1 h2
          split at hev
          · rename_i el es n z eq by' q h3 h4
            simp only [Option.some.injEq, Prod.mk.injEq] at hev
            obtain ⟨rfl, rfl⟩ := hev
            have := key t _ _ _ _ h1 h2 rfl ⟨_, _, _, _, _, _, h3⟩
            rw [(hm.rd s q h4).1] at this
            exact this
          · cases hev
        · rename_i t k h1 h2
          split at hev
          · rename_i el es n z eq by' q h3 h4
            simp only [Option.some.injEq, Prod.mk.injEq] at hev
            obtain ⟨rfl, rfl⟩ := hev
            obtain ⟨B, hB⟩ := hm.gr k q h4
            obtain ⟨A, c, e⟩ := gr_slice hB
            exact key t _ _ _ _ h1 h2 e ⟨_, _, _, _, _, _, h3⟩
          · cases hev
        · rename_i t A n c h1 h2
          split at hev
          · rename_i el es m z eq by' h3
            simp only [Option.some.injEq, Prod.mk.injEq] at hev
            obtain ⟨rfl, rfl⟩ := hev
            exact key t _ _ _ _ h1 h2 rfl ⟨_, _, _, _, _, _, h3⟩
          · cases hev
        · rename_i t g o n c h1 h2
          split at hev
          · rename_i el es m z eq by' h3
            simp only [Option.some.injEq, Prod.mk.injEq] at hev
            obtain ⟨rfl, rfl⟩ := hev
            exact key t _ _ _ _ h1 h2 rfl ⟨_, _, _, _, _, _, h3⟩
          · cases hev
        · cases hev
      case min =>
        split at hev
        · rename_i x r h1
          split at hev
          · rename_i e he
            simp only [Option.some.injEq, Prod.mk.injEq] at hev
            obtain ⟨rfl, rfl⟩ := hev
            have e2 := hargs _ h1
            have := run_mins2 (P := P) (E := E) (w := w) _ _ _ he
            simp only [SV.vals, SV.val] at e2
            simp only [DoesOut, execOp, resolve, Sem.run_bind, e2, Sem.run_pure, Result.andThen_ok, invoke, builtin, Builtin.min_, this, SV.val]
          · cases hev
        · cases hev
      case max =>
        split at hev
        · rename_i x r h1
          split at hev
          · rename_i e he
            simp only [Option.some.injEq, Prod.mk.injEq] at hev
            obtain ⟨rfl, rfl⟩ := hev
            have e2 := hargs _ h1
            have := run_maxs2 (P := P) (E := E) (w := w) _ _ _ he
            simp only [SV.vals, SV.val] at e2
            simp only [DoesOut, execOp, resolve, Sem.run_bind, e2, Sem.run_pure, Result.andThen_ok, invoke, builtin, Builtin.max_, this, SV.val]
          · cases hev
        · cases hev
theorem evalOp_sound {lay : Lay} {σ : List (Nat × SV)} {m : MState} {h : Hint} {o : Oper} {out : Out} {obs : List Ob} {a : Act} {B : Nat} (hl : LayOK P lay)
    (hev : evalOp lay σ m h o.op = some (out, obs)) (hs : ∀ x ∈ o.op.operands, ∀ sv, opnd σ x = some sv → a.eval x = sv.val E) (hm : Known E w m (touches σ h o.op)) (ho : AllOb P B obs) (hM : h.px.isSome = true → ∃ R, Mem B R (m.foot h.fp) E w) :
    DoesOut P E h.g w ((execOp a.eval o).run P w) out := by
  have key : ∀ xs, opnds σ o.op.operands.toList = some xs → o.op.operands.toList.map a.eval = SV.vals E xs := fun xs hx => opnds_ok hx fun x hx' sv h' => hs x (by simpa using hx') sv h'
  rcases evalOp_cases hev with ⟨res, xs, e1, e2, (⟨_, rfl, rfl⟩ | ⟨Φ, _, rfl, rfl⟩)⟩ | ⟨f, args, xs, e1, e2, rfl, rfl⟩ | ⟨e1, e2, e3⟩
  · obtain ⟨R, hR⟩ := hM (by rw [e1]; rfl)
    exact ho.1 E w R a.eval _ _ _ _ _ hR (key xs e2)
  · exact ho.1 E w a.eval _ _ _ _ _ (key xs e2)
  · exact fun _ => ho.2.1 E w a.eval _ _ _ _ _ (key xs e2)
  · exact evalOp0_sound hl e3 hs (by rw [← touches_0 e1 e2]; exact hm) ho
end Go.Proofs.Ytlcccomdijdkaaa
