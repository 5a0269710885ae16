/- A copy of a row that grows; a store into one. -/
import Derived.Test.YtlcccomdijdkaaaSyZ
namespace Go.Proofs.Ytlcccomdijdkaaa
open Go.RowKit

variable {P : Program} {X : Ctx} {E : Env} {a : Act} {w : World} {st : SState}
theorem St.eval (S : St X st E a w) {z : Operand} {sv : SV} (hz : opnd st.slots z = some sv) : a.eval z = sv.val E := by
  cases z with
  | tmp t => simp only [opnd] at hz; have := S.slot t sv hz; simp [Act.eval, this]
  | const v => simp [opnd] at hz; subst hz; rfl
  | global g => simp [opnd] at hz; subst hz; rfl
  | func f => simp [opnd] at hz; subst hz; rfl
/-- append of a row that grows to a slice without room -/
theorem sym_copyG {lay : Lay} (hl : LayOK P lay) {ops l r : List Oper} {o : Oper} {Po : Exit → Act → World → Prop} (hL : l = o :: r) (x y : Operand) (t : TypeId) (ho : o.op = .call { callee := .builtin .append, args := #[x, y], argTypes := #[t, t] }) (hgd : o.guard = none)
    (S : St X st E a w) (g k gl : Nat) (q : GQ) (qs : Q) (d dt : TyD) (hx : opnd st.slots x = some (.row g 0 0 0)) (hy : opnd st.slots y = some (.gr k)) (hq : look st.m.grs k = some q) (hdt : look lay t = some dt) (hsl : dt.k = .sli q.ty q.n) (hd : look lay q.ty = some d) (hn : d.n = q.n)
    (hlen : qs.len = q.len) (hqn : qs.n = q.n) (hget : ∀ i, i < q.len → ∀ j x, (qs.get i)[j]? = some x → q.xs[i * q.n + j]? = some x) (happ : (∀ j, (qs.get j).length = qs.n ∧ ∀ v ∈ qs.get j, v.oneCell' = true) ∧ qs.len ≤ 4611686018427387904 ∧ qs.len * d.by' ≤ 140737488355328)
    (hf : (freshS gl st.slots && freshBl gl st.m.blks && Nat.blt gl 1000) = true) (hdn : ∀ e, o.dst = some e → e < X.n)
    (kk : ∀ E' a' w', St X ⟨match o.dst with | some d => (d, .ltr gl 0) :: st.slots | none => st.slots, { st.m with blks := (gl, .held (CopyOf qs)) :: st.m.blks }⟩ E' a' w' → wpList P ops.toArray Po r a' w') : wpList P ops.toArray Po l a w := by
  subst hL
  obtain ⟨u, hu, hmm⟩ := (hl t dt hdt).under
  rw [hsl] at hmm
  obtain ⟨rfl, hkn, hes⟩ := hmm
  obtain ⟨_, i, hi, his, zv, hzv, hzc⟩ := (hl q.ty d hd).size
  have hby : i.bytes = d.by' := by have := (hl q.ty d hd).bytes; simpa [Program.bytesOf, hi] using this
  obtain ⟨A, cap, hv, hcap, hs⟩ := (GrAt.slice (S.mem.gr k q hq) (fun _ _ => Nat.zero_le _) 0 (fun _ => E.gr k) rfl qs.get hget).out
  have hr : RdAt w qs ⟨A, qs.len, cap, qs.n⟩ := ⟨rfl, rfl, by rw [hlen]; exact hcap, fun h0 => by
    rw [hlen] at h0
    obtain ⟨b, off, h1, h2, h3⟩ := hs h0
    exact ⟨b, off, h1, h2, fun i hi j v hv => by rw [hqn]; exact h3 i (by have h := hi; dsimp only at h ⊢; rw [hlen] at h; exact h) j v hv⟩⟩
  obtain ⟨v', w', hrun, k1, k2, k3⟩ := append_copy (P := P) (ty := o.type) hu hi hzv ⟨E.ρ g, 0, none⟩ qs ⟨A, qs.len, cap, qs.n⟩ hr (by omega) happ.1 happ.2.1 (by rw [hby]; exact happ.2.2)
  have ex : a.eval x = .slice (some ⟨E.ρ g, 0, none⟩) 0 0 := S.eval hx
  have ey : a.eval y = .slice A qs.len cap := (S.eval hy).trans (by rw [hlen]; exact hv)
  simp only [Bool.and_eq_true] at hf
  obtain ⟨f1, f2⟩ := freshBl_ok hf.1.2
  have hlt : gl < 1000 := Nat.lt_of_succ_le (Nat.le_of_ble_eq_true hf.2)
  refine wpList_plain hgd fun K hK => ?_
  unfold Oper.wp execOp
  simp only [ho, resolve, invoke, builtin, Sem.run_bind, Sem.run_pure, Result.andThen_ok, List.map_toArray, List.map_cons, List.map_nil, ex, ey, hrun]
  simp only [Oper.upon]
  have S2 := ((S.later k1).letter hlt f1 (fun t sv h => freshS_ok hf.1.1 t sv h) f2 (CopyOf qs) (fun _ => v') (fun _ => k2) (k3.mono fun b hb hR => ⟨fun hO => absurd (StF.ltB S hO) (by omega), .inl (Nat.le_trans S.size0 hR)⟩)).putD hdn (.ltr gl 0)
  refine hK _ _ (kk (E.updX gl fun _ => v') _ _ ?_)
  unfold St
  cases hdst : o.dst with
  | none =>
    rw [hdst] at S2
    simp only [look_upd]
    exact S2
  | some e =>
    rw [hdst] at S2
    simp only [look_upd]
    simpa [putF, SV.val, Env.updX] using S2
theorem take_mid {α : Type} (L vs : List α) (off n m : Nat) (hv : vs.length = n) (h1 : off + n ≤ m) (h2 : m ≤ L.length) : (L.take off ++ vs ++ L.drop (off + n)).take m = (L.take m).take off ++ vs ++ (L.take m).drop (off + n) := by
  have hA : (L.take off ++ vs).length = off + n := by rw [List.length_append, List.length_take, hv]; omega
  rw [List.take_append, List.take_of_length_le (by omega), hA, List.take_take, show min off m = off by omega, List.drop_take]
/-- an element of a row that grows is stored -/
theorem sym_storeG {lay : Lay} (hl : LayOK P lay) {ops l r : List Oper} {o1 o2 : Oper} {Po : Exit → Act → World → Prop} (hL : l = o1 :: o2 :: r) (t : TypeId) (x i z : Operand) (d1 : Nat) (S : St X st E a w) (k : Nat) (q : GQ) (h1 : o1.op = .indexAddr t x i) (hd1 : o1.dst = some d1) (hg1 : o1.guard = none)
    (h2 : o2.op = .store q.ty (.tmp d1) z) (hd2 : o2.dst = none) (hg2 : o2.guard = none) (ik : IntKind) (iv : Int) (ys : List SV) (d dt : TyD) (hx : opnd st.slots x = some (.gr k)) (hi : opnd st.slots i = some (.v (.int ik iv))) (hz : opnd ((d1, .v undef) :: st.slots) z = some (.agg ys)) (hz' : opnd st.slots z = some (.agg ys)) (hq : look st.m.grs k = some q)
    (hdt : look lay t = some dt) (hsl : dt.k = .sli q.ty q.n) (hd : look lay q.ty = some d) (hn : d.n = q.n) (hys : ys.length = q.n) (hone : ys.all (oneB st.m) = true) (hr : 0 ≤ iv ∧ iv < q.len) (hdn : d1 < X.n)
    (kk : ∀ u xs v0 E' a' w', E'.gr k = v0 → St X (SState.setgr ⟨(d1, .v u) :: st.slots, st.m⟩ k v0 ⟨q.ty, q.n, q.len, xs⟩) E' a' w' → wpList P ops.toArray Po r a' w') : wpList P ops.toArray Po l a w := by
  subst hL
  obtain ⟨u, hu, hmm⟩ := (hl t dt hdt).under
  rw [hsl] at hmm
  obtain ⟨rfl, hkn, hes⟩ := hmm
  have hG := S.mem.gr k q hq
  obtain ⟨hxl, ⟨_, h0⟩ | ⟨b, cap, cur, hv, _, hb, hcap, hmax, hsz, htake⟩⟩ := hG
  · omega
  obtain ⟨m, rfl⟩ : ∃ m : Nat, iv = m := ⟨iv.toNat, by omega⟩
  have hm : m < q.len := by omega
  have ex : a.eval x = .slice (some ⟨b, 0, none⟩) q.len cap := (S.eval hx).trans hv
  have ei : a.eval i = .int ik m := S.eval hi
  obtain ⟨ptr, hptr⟩ : ∃ ptr : Value, ptr = .pointer (some ⟨b, m * q.n, none⟩) := ⟨_, rfl⟩
  have hrun1 : (execOp a.eval o1).run P w = .ok (.value ptr) w := by
    obtain ⟨dst, op, type, pos, after, guard⟩ := o1
    simp only at h1
    subst h1
    refine run_v rfl ?_
    rw [ex, ei, hptr]
    unfold Instr.indexAt
    simp only [asIntOf, Sem.run_bind, Sem.run_pure, Result.andThen_ok, run_underlying hu]
    rw [if_pos (by omega)]
    simp only [Sem.run_bind, knownB.run_size hkn, Result.andThen_ok, Sem.run_pure, add_plain', Nat.zero_add, Int.toNat_natCast]
    rw [← hes]
  refine wpList_plain hg1 fun K hK => ?_
  unfold Oper.wp
  rw [hrun1]
  simp only [Oper.upon]
  refine hK _ _ ?_
  rw [hd1]
  have S1 : St X ⟨(d1, .v ptr) :: st.slots, st.m⟩ E (a.put (some d1) ptr) w := by
    unfold St
    simp only [look_upd]
    exact StF.put S hdn (.v ptr)
  have ez : (a.put (some d1) ptr).eval z = .agg (SV.vals E ys).toArray := by
    cases z with
    | tmp tz =>
      simp only [opnd] at hz
      have hne : d1 ≠ tz := fun e => by subst e; rw [look_same] at hz; cases hz
      rw [look_ne hne] at hz
      have := S1.slot tz (.agg ys) (by show look ((d1, SV.v ptr) :: st.slots) tz = _; rw [look_ne hne]; exact hz)
      simp [Act.eval, this, SV.val]
    | const v => simp [opnd] at hz
    | global g => simp [opnd] at hz
    | func f => simp [opnd] at hz
  have ep : (a.put (some d1) ptr).eval (.tmp d1) = ptr := by
    have := S1.slot d1 (.v ptr) (look_same _ _ _)
    simp [Act.eval, this, SV.val]
  have hnice : Nice E st.m := ⟨fun k q hq => by
    obtain ⟨A, c, e⟩ := gr_slice (S.mem.gr k q hq)
    exact ⟨A, _, c, e⟩, S.mem.one⟩
  have hone' : ∀ v ∈ SV.vals E ys, v.oneCell' = true := fun v hv => by
    rw [SV.vals_map] at hv
    obtain ⟨s, hs, rfl⟩ := List.mem_map.1 hv
    exact oneB_ok hnice (List.all_eq_true.1 hone s hs)
  have hmul : m * q.n + q.n ≤ q.len * q.n := by
    have := Nat.mul_le_mul_right q.n (show m + 1 ≤ q.len by omega)
    rwa [Nat.add_mul, Nat.one_mul] at this
  have hmul2 : q.len * q.n ≤ cap * q.n := Nat.mul_le_mul_right q.n hcap
  have hB : Blk w b q.ty cur := hb
  have hst := run_storeCells_at (P := P) b (m * q.n) q.ty (SV.vals E ys) 0 cur w hB (by simp [vals_length]; omega) hone'
  have hrun2 : (execOp (a.put (some d1) ptr).eval o2).run P w = .ok .skip (w.setRow b (cur.toList.take (m * q.n) ++ SV.vals E ys ++ cur.toList.drop (m * q.n + q.n)).toArray) := by
    have hsa : (Instr.storeAt q.ty ptr (.agg (SV.vals E ys).toArray)).run P w = .ok () (w.setRow b (cur.toList.take (m * q.n) ++ SV.vals E ys ++ cur.toList.drop (m * q.n + q.n)).toArray) := by
      rw [hptr]
      have e1 : (Value.agg (SV.vals E ys).toArray).cells = (SV.vals E ys).toArray := rfl
      unfold Instr.storeAt storeVar
      simp only [Instr.sureAddr, Sem.run_bind, Sem.run_pure, Result.andThen_ok, (hl q.ty d hd).run_size, e1]
      rw [if_neg (by simp [vals_length, hys, hn])]
      simp only [Nat.add_zero, vals_length, hys] at hst
      exact hst
    obtain ⟨dst, op, type, pos, after, guard⟩ := o2
    simp only at h2
    subst h2
    simp only [execOp, ep, ez, Sem.run_bind, hsa, Result.andThen_ok, Sem.run_pure]
  refine wpList_plain hg2 fun K2 hK2 => ?_
  unfold Oper.wp
  rw [hrun2]
  simp only [Oper.upon]
  refine hK2 _ _ ?_
  rw [hd2]
  have S2 := S1.setgr k ⟨q.ty, q.n, q.len, q.xs.take (m * q.n) ++ SV.vals E ys ++ q.xs.drop (m * q.n + q.n)⟩ (w' := w.setRow b (cur.toList.take (m * q.n) ++ SV.vals E ys ++ cur.toList.drop (m * q.n + q.n)).toArray) (v' := E.gr k) (row := (E.gr k).ownBlock)
    ⟨rfl, rfl, rfl, by simp, fun j _ hj => setRow_other w b j _ (fun e => hj (by rw [hv]; simp [Value.ownBlock, e]))⟩ (fun b' hb' => ⟨q, hq, hb'⟩) ⟨?_, .inr ⟨b, cap, _, hv, Nat.zero_le _, setRow_heap w b cur _ q.ty _ hb, hcap, hmax, ?_, ?_⟩⟩ (fun b' hb' => .inl hb')
  · exact kk ptr _ (E.gr k) (E.updG k (E.gr k)) _ _ (Env.updG_same _ _ _) S2
  · simp only [List.length_append, List.length_take, List.length_drop, vals_length, hys, hxl]
    omega
  · simp only [List.size_toArray, List.length_append, List.length_take, List.length_drop, vals_length, hys, Array.length_toList, hsz]
    omega
  · rw [← htake]
    exact take_mid cur.toList (SV.vals E ys) (m * q.n) q.n (q.len * q.n) (by rw [vals_length, hys]) hmul (by rw [Array.length_toList, hsz]; exact hmul2)
end Go.Proofs.Ytlcccomdijdkaaa
