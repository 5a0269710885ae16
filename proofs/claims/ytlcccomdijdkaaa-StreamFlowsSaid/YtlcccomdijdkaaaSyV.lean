/- Between states: another frame, another time, blocks that others turn; append within a round; a call that is deferred. -/
import Derived.Test.YtlcccomdijdkaaaSyU
namespace Go.Proofs.Ytlcccomdijdkaaa
open Go.RowKit

variable {P : Program} {X : Ctx} {E : Env} {a : Act} {w : World} {st : SState} {ro : Option Nat} {n0 : Nat}

/-- append of a row of the call's own -/
theorem sym_appendI {lay : Lay} (hl : LayOK P lay) {ops l r : List Oper} {o : Oper} {Po : Exit → Act → World → Prop} (hL : l = o :: r) (x y : Operand) (t : TypeId) (ho : o.op = .call { callee := .builtin .append, args := #[x, y], argTypes := #[t, t] }) (hgd : o.guard = none)
    (S : St X st E a w) (k g len m cap : Nat) (ty : TypeId) (cs : List SV) (q : GQ) (d dt : TyD) (hx : opnd st.slots x = some (.gr k)) (hq : look st.m.grs k = some q) (hy : opnd st.slots y = some (.row g 0 m cap)) (hg : look st.m.blks g = some (.blk ty cs))
    (hdt : look lay t = some dt) (hsl : dt.k = .sli q.ty q.n) (hd : look lay q.ty = some d) (hn : d.n = q.n) (hpos : 0 < q.n) (hcs : cs.length = m * q.n) (hone : cs.all (oneB st.m) = true) (hdn : ∀ e, o.dst = some e → e < X.n)
    (q' : GQ) (e1 : q'.ty = q.ty) (e2 : q'.n = q.n) (e3 : q'.len = q.len + m) (e4 : ∀ E, q'.xs = q.xs ++ SV.vals E cs) (hb1 : q.len + m ≤ 4611686018427387904) (hb2 : (q.len + m) * d.by' ≤ 140737488355328) (hlen : len = len)
    (kk : ∀ v0 E' a' w', St X { st.setgr k v0 q' with slots := match o.dst with | some d => (d, .gr k) :: (st.setgr k v0 q').slots | none => (st.setgr k v0 q').slots } E' a' w' → wpListIn (FW ro) n0 P ops.toArray Po r a' w') : wpListIn (FW ro) n0 P ops.toArray Po l a w := by
  subst hL
  have ev : ∀ z sv, opnd st.slots z = some sv → a.eval z = sv.val E := fun z sv hz => by
    cases z with
    | tmp t => simp only [opnd] at hz; have := S.slot t sv hz; simp [Act.eval, this]
    | const v => simp [opnd] at hz; subst hz; rfl
    | global g => simp [opnd] at hz; subst hz; rfl
    | func f => simp [opnd] at hz; subst hz; rfl
  obtain ⟨u, hu, hmm⟩ := (hl t dt hdt).under
  rw [hsl] at hmm
  obtain ⟨rfl, hkn, hes⟩ := hmm
  obtain ⟨_, i, hi, his, z, hz, hzc⟩ := (hl q.ty d hd).size
  have hby : i.bytes = d.by' := by have := (hl q.ty d hd).bytes; simpa [Program.bytesOf, hi] using this
  have hzs : z.cells.size = q.n := by
    have := (hl q.ty d hd).zlen
    rw [← hn, ← this, ← hzc]
    simp
  have hG := S.mem.gr k q hq
  have hB := S.mem.blk g ty cs hg
  have hgr : Nice E st.m := ⟨fun k q hq => by
    obtain ⟨A, c, e⟩ := gr_slice (S.mem.gr k q hq)
    exact ⟨A, _, c, e⟩, S.mem.one⟩
  refine wpListIn_append_own_at w hgd x y t ho 0 q.ty i z q.n d.by' hu hi hz (his.trans hn) hby hzs hpos (E.gr k) q.len q.xs (ev x _ hx) hG ⟨E.ρ g, 0, none⟩ m cap (SV.vals E cs) (ev y _ hy) (by rw [vals_length, hcs]) (fun j u hj => by
    rw [add_plain', Nat.zero_add, hB.cell]; simpa using hj) (fun v hv => ?_) (by simp only [maxLen]; omega) hb2 (Nat.zero_le _) ?_
  · rw [SV.vals_map] at hv
    obtain ⟨s, hs, rfl⟩ := List.mem_map.1 hv
    exact oneB_ok hgr (List.all_eq_true.1 hone s hs)
  · intro v' w' hown hgrow _ hat
    have S' := S.setgr k q' (row := (E.gr k).ownBlock) hgrow (fun b hb => ⟨q, hq, hb⟩) (by unfold GrAt; rw [e1, e2, e3, e4 E]; exact hown) (fun b hb => by
      rcases hat with h1 | h1
      · rw [h1] at hb; exact .inl hb
      · rw [h1] at hb; simp only [Option.some.injEq] at hb; omega)
    have S2 := StF.putD S' hdn (.gr k)
    simp only [SV.val, Env.updG_same] at S2
    refine kk (E.gr k) (E.updG k v') (a.put o.dst v') w' ?_
    unfold St
    cases hdst : o.dst with
    | none => rw [hdst] at S2; exact S2
    | some e =>
      rw [hdst] at S2
      simp only
      rw [look_upd]
      exact S2

/-- the blocks of a state's own -/
abbrev SState.own (st : SState) (E : Env) : Nat → Prop := OwnB (look st.m.blks) st.m.grs E
theorem St.own_lt (S : St X st E a w) : ∀ k, st.own E k → k < w.heap.size := fun _ hk => StF.ltB S hk
/-- seen from now on -/
theorem St.rebase (S : St X st E a w) (C : Nat → Prop) (hC : ∀ k, st.own E k → C k) : St { X with w0 := w, C := C, R := allR, ρ0 := E.ρ, sl0 := E.sl, x0 := E.x } st E a w :=
  ⟨S.slot, S.size, S.defers, Kept.refl _ _, ⟨S.mem.blk, S.mem.rd, S.mem.gr, S.mem.one⟩,
    ⟨fun g t cs hx => .inr (hC _ (.inl ⟨g, t, cs, hx, rfl⟩)), S.sep.inj, ⟨S.sep.ginj.1, fun k x b hx hb => .inr (hC _ (.inr ⟨k, x, hx, hb⟩))⟩, S.sep.mix, fun s q b off hq hl hA => ⟨(S.sep.rd s q b off hq hl hA).1, .inr trivial⟩, fun g Φ hx => (S.sep.held g Φ hx).mono fun k _ h => ⟨h.1, .inr trivial⟩⟩, fun _ _ => rfl, fun _ _ => rfl, fun _ _ => rfl⟩
/-- another frame -/
theorem St.frame (S : St X st E a w) {a' : Act} (hs : ∀ t sv, look st.slots t = some sv → a'.tmps[t]? = some (sv.val E)) (hz : a'.tmps.size = X.n) : St { X with D := a'.defers } st E a' w :=
  ⟨hs, hz, rfl, S.kept, S.mem, S.sep, S.pin⟩
/-- a world in which only blocks that the state does not speak of have turned -/
theorem St.moved (S : St X st E a w) {C : Nat → Prop} {w' : World} (hk : Kept C w w') (hr : ∀ s q b off, look st.m.rds s = some q → 0 < q.len → (E.sl s).A = some ⟨b, off, none⟩ → ¬ C b) (hh : ∀ g Φ, look st.m.blks g ≠ some (.held Φ)) (hC : ∀ k, k < w.heap.size → C k → ¬ st.own E k ∧ (X.w0.heap.size ≤ k ∨ X.C k)) : St X st E a w' := by
  have hb : ∀ k, st.own E k → w'.heap[k]? = w.heap[k]? := fun k ho => hk.block k (S.own_lt k ho) (fun hc => (hC k (S.own_lt k ho) hc).1 ho)
  refine ⟨S.slot, S.size, S.defers, ⟨hk.os.trans S.kept.os, hk.tape.trans S.kept.tape, hk.output.trans S.kept.output, Nat.le_trans S.kept.size hk.size, fun k hlt hn => ?_⟩,
    ⟨fun g t cs hx => (hb _ (.inl ⟨g, t, cs, hx, rfl⟩)).trans (S.mem.blk g t cs hx), fun s q hq => (S.mem.rd s q hq).move hk.size fun b off hl hA hlt => hk.block b hlt (hr s q b off hq hl hA), fun k q hq => (S.mem.gr k q hq).move fun b hbb => hb b (.inr ⟨k, q, hq, hbb⟩), S.mem.one⟩,
    ⟨S.sep.base, S.sep.inj, S.sep.ginj, S.sep.mix, S.sep.rd, fun g Φ hx => absurd hx (hh g Φ)⟩, S.pin⟩
  have hlt' : k < w.heap.size := Nat.lt_of_lt_of_le hlt S.kept.size
  refine (hk.block k hlt' (fun hc => ?_)).trans (S.kept.block k hlt hn)
  rcases (hC k hlt' hc).2 with h | h
  · omega
  · exact hn h
/-- the same cells, spelt otherwise -/
theorem St.recell (S : St X st E a w) {g : Nat} {t : TypeId} {cs cs' : List SV} (hg : look st.m.blks g = some (.blk t cs)) (hv : SV.vals E cs' = SV.vals E cs) : St X { st with m := { st.m with blks := (g, .blk t cs') :: st.m.blks } } E a w := by
  have hb : ∀ k t1 c1, look ((g, BE.blk t cs') :: st.m.blks) k = some (.blk t1 c1) → ∃ c2, look st.m.blks k = some (.blk t1 c2) ∧ SV.vals E c1 = SV.vals E c2 := fun k t1 c1 hx => by
    rcases look_cases hx with ⟨rfl, e⟩ | ⟨_, h2⟩
    · simp only [BE.blk.injEq] at e
      obtain ⟨rfl, rfl⟩ := e
      exact ⟨cs, hg, hv⟩
    · exact ⟨c1, h2, rfl⟩
  have hd : ∀ k Φ, look ((g, BE.blk t cs') :: st.m.blks) k = some (.held Φ) → look st.m.blks k = some (.held Φ) := fun k Φ hx => by
    rcases look_cases hx with ⟨_, e⟩ | ⟨_, h2⟩
    · cases e
    · exact h2
  have hap : ∀ k, Apart X.w0.heap.size X.R (look st.m.blks) st.m.grs E k → Apart X.w0.heap.size X.R (look ((g, BE.blk t cs') :: st.m.blks)) st.m.grs E k := fun k h => ⟨fun ho => h.1 (by
    rcases ho with ⟨k', t1, c1, hx, e⟩ | hk
    · obtain ⟨c2, h2, _⟩ := hb k' t1 c1 hx; exact .inl ⟨k', t1, c2, h2, e⟩
    · exact .inr hk), h.2⟩
  exact ⟨S.slot, S.size, S.defers, S.kept, ⟨fun k t1 c1 hx => by obtain ⟨c2, h2, e⟩ := hb k t1 c1 hx; rw [e]; exact S.mem.blk k t1 c2 h2, S.mem.rd, S.mem.gr, S.mem.one⟩,
    ⟨fun k t1 c1 hx => by obtain ⟨c2, h2, _⟩ := hb k t1 c1 hx; exact S.sep.base k t1 c2 h2, fun k k' t1 t2 c1 c2 hx hy e => by obtain ⟨d1, h1, _⟩ := hb k t1 c1 hx; obtain ⟨d2, h2, _⟩ := hb k' t2 c2 hy; exact S.sep.inj k k' _ _ _ _ h1 h2 e, S.sep.ginj,
      fun k j t1 c1 y hx hy => by obtain ⟨d1, h1, _⟩ := hb k t1 c1 hx; exact S.sep.mix k j _ _ y h1 hy, fun s q b off hq hl hA => hap b (S.sep.rd s q b off hq hl hA), fun k Φ hx => (S.sep.held k Φ (hd k Φ hx)).mono fun b _ => hap b⟩, S.pin⟩
theorem St.reslot (S : St X st E a w) {t : Nat} {sv sv' : SV} (h : look st.slots t = some sv) (hv : sv'.val E = sv.val E) : St X { st with slots := (t, sv') :: st.slots } E a w :=
  ⟨fun k x hx => by
    rcases look_cases hx with ⟨rfl, rfl⟩ | ⟨_, h2⟩
    · rw [hv]; exact S.slot _ _ h
    · exact S.slot k x h2, S.size, S.defers, S.kept, S.mem, S.sep, S.pin⟩
end Go.Proofs.Ytlcccomdijdkaaa
