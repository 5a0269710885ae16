/- all: what is drawn, one after the other, into a slice; or the error that ended it. -/
import Derived.Test.YtnfahoomoelmcaaSyCatch
namespace Go.Proofs.Ytnfahoomoelmcaa
open Go.RowKit Go.Proofs.Try

theorem sym_defer {P : Program} {ops : List Oper} {o1 o2 : Oper} {a : Act} {w : World} {Po : Exit → Act → World → Prop} {f d : Nat} {cap : Array Operand} {vs : Array Value} {ts : Array TypeId} (h1 : o1.op = .makeFunc (.func f) #[] cap) (hd : o1.dst = some d) (g1 : o1.guard = none) (h2 : o2.op = .defer { callee := .value (.tmp d), args := #[], argTypes := ts }) (g2 : o2.guard = none) (d2 : o2.dst = none)
    (hlt : d < a.tmps.size) (hv : cap.map a.eval = vs) (h : ∀ a', a'.defers = { target := .fn (.func f) vs, args := #[] } :: a.defers → a'.tmps.size = a.tmps.size → (∀ t, t ≠ d → a'.tmps[t]? = a.tmps[t]?) → Po .normal a' w) : wpList P ops.toArray Po [o1, o2] a w := by
  refine wpList_plain g1 fun K hK => ?_
  unfold Oper.wp
  have e1 : (execOp a.eval o1).run P w = .ok (.value (.func (.func f) #[] vs)) w := by
    obtain ⟨dst, op, ty, pos, aft, gd⟩ := o1
    simp only at h1
    subst h1
    simp [execOp, Instr.makeFunc, hv, Sem.run_pure]
  rw [e1]
  simp only [Oper.upon]
  refine hK _ _ ?_
  refine wpList_plain g2 fun K hK => ?_
  unfold Oper.wp
  have hev : (a.put o1.dst (.func (.func f) #[] vs)).eval (.tmp d) = .func (.func f) #[] vs := by
    rw [hd]; simp [Act.put, Act.eval, hlt]
  have e2 : (execOp (a.put o1.dst (.func (.func f) #[] vs)).eval o2).run P w = .ok (.defer { target := .fn (.func f) vs, args := #[] }) w := by
    obtain ⟨dst, op, ty, pos, aft, gd⟩ := o2
    simp only at h2
    subst h2
    simp only [execOp, resolve, Sem.run_bind, hev, Deferred.ofValue, Sem.run_pure, Result.andThen_ok]
    simp [Sem.run_pure]
  rw [e2]
  simp only [Oper.upon]
  refine hK _ _ (h _ ?_ ?_ ?_)
  · rw [d2, hd]; rfl
  · rw [d2, hd]; simp [Act.put]
  · intro t ht
    rw [d2, hd]
    simp only [Act.put]
    rw [Array.getElem?_setIfInBounds_ne (fun e => ht e.symm)]

abbrev dCells (x : MDrawn) : List Value := [.int .i64 x.amount, .int .i64 x.alcohol.lo, .int .i64 x.alcohol.hi]
abbrev dSV (x : MDrawn) : List SV := [.v (.int .i64 x.amount), .v (.int .i64 x.alcohol.lo), .v (.int .i64 x.alcohol.hi)]
abbrev dGQ (xs : List MDrawn) : GQ := ⟨36, 3, xs.length, xs.flatMap dCells⟩
/-- the results' blocks, and the row, while it grows -/
def AI (b0 b1 b2 B : Nat) (pre : List MDrawn) (S : Nat → Prop) (W : World) : Prop := ∃ V, GrAt W 0 (dGQ pre) V ∧ Blk W b0 39 #[V] ∧ Blk W b1 29 #[.int .i64 0, .int .i64 0, .int .i64 0] ∧ Blk W b2 32 #[.int .i64 0] ∧ (∀ k, V.ownBlock = some k → B ≤ k) ∧ ∀ k, S k ↔ (k = b0 ∨ k = b1 ∨ k = b2 ∨ V.ownBlock = some k)
theorem AI.rest (b0 b1 b2 B : Nat) (M : Nat → Prop) (N : Nat) : RestM M N (AI b0 b1 b2 B) := by
  refine ⟨fun s S a b hJ hk => ?_, fun s S a hJ k hk => ?_⟩
  · obtain ⟨V, hG, c0, c1, c2, hV, hS⟩ := hJ
    have same : ∀ k, S k → k < a.heap.size → b.heap[k]? = a.heap[k]? := fun k hs hlt => hk.block k hlt (fun h => h.1 hs)
    exact ⟨V, hG.move fun k hb => same k ((hS k).2 (.inr (.inr (.inr hb)))) (World.ownsRow.lt hG k hb).2, (same b0 ((hS b0).2 (.inl rfl)) c0.lt).trans c0, (same b1 ((hS b1).2 (.inr (.inl rfl))) c1.lt).trans c1, (same b2 ((hS b2).2 (.inr (.inr (.inl rfl)))) c2.lt).trans c2, hV, hS⟩
  · obtain ⟨V, hG, c0, c1, c2, hV, hS⟩ := hJ
    rcases (hS k).1 hk with rfl | rfl | rfl | hb
    · exact c0.lt
    · exact c1.lt
    · exact c2.lt
    · exact (World.ownsRow.lt hG k hb).2
/-- and that little else has turned -/
def AJ (b b0 b1 b2 : Nat) (w : World) (pre : List MDrawn) (S : Nat → Prop) (W : World) : Prop := AI b0 b1 b2 w.heap.size pre S W ∧ Kept (fun k => k = b0 ∨ k = b1 ∨ k = b2 ∨ k = b) w W
theorem AJ.rest (b b0 b1 b2 : Nat) (w : World) : RestM (fun k => k = b) w.heap.size (AJ b b0 b1 b2 w) :=
  ⟨fun s S a c hJ hk => ⟨(AI.rest _ _ _ _ _ _).1 s S a c hJ.1 hk, ⟨hk.os.trans hJ.2.os, hk.tape.trans hJ.2.tape, hk.output.trans hJ.2.output, Nat.le_trans hJ.2.size hk.size, fun k hlt hn => (hk.block k (Nat.lt_of_lt_of_le hlt hJ.2.size) (fun h => by
    rcases h.2 with h2 | h2
    · omega
    · exact hn (.inr (.inr (.inr h2))))).trans (hJ.2.block k hlt hn)⟩⟩, fun s S a hJ => (AI.rest _ _ _ _ (fun k => k = b) w.heap.size).2 s S a hJ.1⟩
theorem Kept.after {C C' : Nat → Prop} {a b c : World} (h : Kept C a b) (k : Kept C' b c) (hC : ∀ j, j < a.heap.size → C' j → C j) : Kept C a c :=
  ⟨k.os.trans h.os, k.tape.trans h.tape, k.output.trans h.output, Nat.le_trans h.size k.size, fun j hj hn => (k.block j (Nat.lt_of_lt_of_le hj h.size) (fun hc => hn (hC j hj hc))).trans (h.block j hj hn)⟩
theorem hand_len {fuel : Nat} {c : MCurve} : ∀ {l : List Int} {p q : MPot} {xs : List MDrawn} {er : Option Int}, hand fuel c p l = some (xs, q, er) → xs.length ≤ l.length
  | [], p, q, xs, er, h => by
    simp only [hand, Option.some.injEq, Prod.mk.injEq] at h
    obtain ⟨rfl, _⟩ := h
    simp
  | d :: r, p, q, xs, er, h => by
    simp only [hand] at h
    obtain ⟨x, hx, h⟩ := bind_some h
    cases x with
    | error k =>
      simp only [Option.some.injEq, Prod.mk.injEq] at h
      obtain ⟨rfl, _⟩ := h
      simp
    | ok y =>
      obtain ⟨z, hz, h⟩ := bind_some h
      simp only [Option.some.injEq, Prod.mk.injEq] at h
      obtain ⟨rfl, h⟩ := h
      have := hand_len (xs := z.1) (q := z.2.1) (er := z.2.2) hz
      simp only [List.length_cons]
      omega
/-- the results, read -/
theorem sym_results {P : Program} {X : Ctx} {st : SState} {E : Env} {a : Act} {w : World} {lay : Lay} (hl : LayOK P lay) {fn : Func} (xs : List SV) (hr : resSV lay st fn.results.toList = some xs) (S : St X st E a w) : (results fn a.tmps).run P w = .ok ((retSV xs).val E) w := by
  have h1 := res_one (P := P) hl S _ _ hr
  have h2 : (fn.results.mapM (oneRes a)).run P w = .ok (SV.vals E xs).toArray w := by
    rw [Array.mapM_eq_mapM_toList]
    show ((fn.results.toList.mapM (oneRes a)).bind fun l => Sem.pure l.toArray).run P w = _
    have := Sem.run_bind (P := P) (w := w) (fn.results.toList.mapM (oneRes a)) (fun l => (Sem.pure l.toArray : Sem (Array Value)))
    refine this.trans ?_
    rw [h1]
    rfl
  have h3 : (results fn a.tmps) = (fn.results.mapM (oneRes a) >>= fun vs => (pure (if h : vs.size = 1 then vs[0] else .tuple vs) : Sem Value)) := by
    unfold results
    congr 1
  rw [h3, Sem.run_bind, h2]
  match xs with
  | [] => simp [SV.vals, retSV, SV.val, Sem.run_pure]
  | [x] => simp [SV.vals, retSV, Sem.run_pure]
  | x :: y :: r => simp [SV.vals, retSV, SV.val, Sem.run_pure]
/-- a function that defers, or ranges over an iterator, is entered -/
theorem sym_enterM {P : Program} {f : FuncId} {fn : Func} {c : Code} {W : World} {T : Ending → World → Prop} (hf : P.funcs[f]? = some fn) (hb : fn.body = some c) (svs : List SV) (hn : Nat.ble svs.length fn.ntmps = true)
    (h : ∀ a, St ⟨W, noC, fn.ntmps, [], allR, noρ, (envOf []).sl, (envOf []).x⟩ ⟨argSlots 0 svs, ⟨[], [], []⟩⟩ (envOf []) a W → c.wp P (bodyPostM (FW none) 0 P fn T) a W) : Calls P f (SV.vals (envOf []) svs).toArray W T := by
  have hn := Nat.le_of_ble_eq_true hn
  refine (callsIn_wide (n := 0)).1 (callsIn_of_wp_marks (n := 0) hf hb trivial ((wpIn_wide (n := 0)).2 (h _ ⟨fun t sv ht => ?_, by simp [vals_length]; omega, rfl, Kept.refl _ _, ⟨fun g t cs hx => by simp [look] at hx, fun s q hq => by simp [look] at hq, fun k q hq => by simp [look] at hq, envOf_one (xs := []) (sls := []) trivial⟩,
    ⟨fun g t cs hx => by simp [look] at hx, fun g g' t t' cs cs' hx => by simp [look] at hx, ⟨fun k k' x y b hx => by simp [look] at hx, fun k x b hx => by simp [look] at hx⟩, fun g k t cs y hx => by simp [look] at hx, fun s q b off hq => by simp [look] at hq, fun g Φ hx => by simp [look] at hx⟩, fun _ _ => rfl, fun _ _ => rfl, fun _ _ => rfl⟩)))
  obtain ⟨_, h2⟩ := argSlots_look svs 0 t sv ht
  rw [Nat.sub_zero] at h2
  have hlt : t < svs.length := (List.getElem?_eq_some_iff.1 h2).1
  rw [Array.getElem?_append_left (by simp [vals_length, hlt])]
  simp [vals_get, h2]
theorem blk_ne {w : World} {g g' : Nat} {t t' : TypeId} {cs cs' : Array Value} (h : Blk w g t cs) (h' : Blk w g' t' cs') (ht : t ≠ t') : g ≠ g' := fun e => by
  subst e
  have := h.symm.trans h'
  simp only [Option.some.injEq, Obj.cells.injEq] at this
  exact ht this.2.1

set_option maxRecDepth 100000 in
set_option maxHeartbeats 4000000 in
theorem all_okR (fuel : Nat) (c : MCurve) (p : MPot) (l : List Int) (v : Nat → Value) (b : Nat) (A : Option Addr) (cap : Nat) (xs : List MDrawn) (q : MPot) (er : Option Int) (W : World) (hv : ∀ i, (v i).oneCell' = true)
    (hh : hand fuel c p l = some (xs, q, er)) (hl64 : l.length ≤ 1000000) (h0 : l.length ≤ cap) (s0 : SlAt W A l.length 1 fun i => [.int .i64 (l.getD i default)]) (r0 : InR (fun k => k ≠ b) A l.length) (hL : HeldIn (fun k => k ≠ b) W (Lines c v)) (hB : Blk W b 92 (runCells p v)) :
    Calls prog 54 #[.pointer (some ⟨b, 0, none⟩), .slice A l.length cap] W fun e w' => Kept (fun k => k = b) W w' ∧ match er with
      | none => ∃ u, e = .returned (.tuple #[u, .agg #[.int .i64 q.volume, .int .i64 q.alcohol.lo, .int .i64 q.alcohol.hi], .int .i64 0]) ∧ u.oneCell' = true ∧ (GrAt w' 0 (dGQ xs) u ∧ ∀ k, u.ownBlock = some k → W.heap.size ≤ k)
      | some k => e = .returned (.tuple #[.slice none 0 0, .agg #[.int .i64 0, .int .i64 0, .int .i64 0], .int .i64 k]) := by
  refine sym_enterM (f := 54) (fn := f54) (c := f54.body.get rfl) func54 rfl [.v (.pointer (some ⟨b, 0, none⟩)), .v (.slice A l.length cap)] (by kernel_rfl) fun a0 S => ?_
  refine sym_seq lay_ok mixed [(0, { g := 0 }), (1, { g := 1 }), (2, { g := 2 })] [0, 1, 4, 5, 6] [0, 1, 2] (⟨[(0, .v (.pointer (some ⟨b, 0, none⟩))), (1, .v (.slice A l.length cap)), (4, .own 0 0), (5, .own 1 0), (6, .own 2 0)], ⟨[(0, .blk 39 [.v (.slice none 0 0)]), (1, .blk 29 [.v (.int .i64 0), .v (.int .i64 0), .v (.int .i64 0)]), (2, .blk 32 [.v (.int .i64 0)])], [], []⟩⟩) [] S (by kernel_rfl) (by kernel_rfl) (by kernel_rfl) trivial fun E a w1 S1 => ?_
  clear S
  have c0 : Blk w1 (E.ρ 0) 39 #[.slice none 0 0] := S1.mem.blk 0 _ _ rfl
  have c1 : Blk w1 (E.ρ 1) 29 #[.int .i64 0, .int .i64 0, .int .i64 0] := S1.mem.blk 1 _ _ rfl
  have c2 : Blk w1 (E.ρ 2) 32 #[.int .i64 0] := S1.mem.blk 2 _ _ rfl
  have base : ∀ g t cs, look [(0, BE.blk 39 [.v (.slice none 0 0)]), (1, .blk 29 [.v (.int .i64 0), .v (.int .i64 0), .v (.int .i64 0)]), (2, .blk 32 [.v (.int .i64 0)])] g = some (.blk t cs) → W.heap.size ≤ E.ρ g := fun g t cs hx => by
    rcases S1.sep.base g t cs hx with h | h
    · exact h
    · exact h.elim
  have n0 := base 0 _ _ rfl
  have n1 := base 1 _ _ rfl
  have n2 := base 2 _ _ rfl
  have t0 := S1.slot 0 _ rfl
  have t1 := S1.slot 1 _ rfl
  have t4 := S1.slot 4 _ rfl
  have t5 := S1.slot 5 _ rfl
  have t6 := S1.slot 6 _ rfl
  have hz : a.tmps.size = f54.ntmps := S1.size
  have hdf : a.defers = [] := S1.defers
  have hb1 : Below W.heap.size W w1 := S1.kept.below (Nat.le_refl _) (fun k _ h => h)
  clear S1 base
  simp only [SV.val] at t0 t1 t4 t5 t6
  generalize E.ρ 0 = b0 at *
  generalize E.ρ 1 = b1 at *
  generalize E.ρ 2 = b2 at *
  clear E
  -- the closure is deferred
  refine wp_seq (wp_region_lit (sym_defer (vs := #[.pointer (some ⟨b0, 0, none⟩), .pointer (some ⟨b1, 0, none⟩), .pointer (some ⟨b2, 0, none⟩)]) rfl rfl rfl rfl rfl rfl (by rw [hz]; exact Nat.lt_of_succ_le (Nat.le_of_ble_eq_true rfl)) (by simp [Act.eval, t4, t5, t6]) fun a1 hd1 hz1 ht1 => ?_))
  refine out_then_normal ?_
  rw [hdf] at hd1
  rw [hz] at hz1
  rw [← ht1 0 (by decide)] at t0
  rw [← ht1 1 (by decide)] at t1
  rw [← ht1 4 (by decide)] at t4
  rw [← ht1 5 (by decide)] at t5
  rw [← ht1 6 (by decide)] at t6
  clear ht1 hz hdf
  have S := (St.make [] (a := ⟨a1.tmps, []⟩) (w := w1) (n := f54.ntmps) (slots := [(0, .v (.pointer (some ⟨b, 0, none⟩))), (1, .v (.slice A l.length cap)), (4, .v (.pointer (some ⟨b0, 0, none⟩))), (5, .v (.pointer (some ⟨b1, 0, none⟩))), (6, .v (.pointer (some ⟨b2, 0, none⟩)))]) ⟨t0, t1, t4, t5, t6, trivial⟩ hz1 rfl trivial trivial)
  have S := S.frame (a' := a1) S.slot hz1
  clear t0 t1 t4 t5 t6
  refine wp_seq ?_
  refine sym_seq lay_ok mixed [(2, { g := 3, res := .fn 75 [.ltr 3 0, .ltr 3 1], hx := some (Boxes A l.length cap b) })] [0, 4, 5, 6, 11] [3] (⟨[(0, .v (.pointer (some ⟨b, 0, none⟩))), (4, .v (.pointer (some ⟨b0, 0, none⟩))), (5, .v (.pointer (some ⟨b1, 0, none⟩))), (6, .v (.pointer (some ⟨b2, 0, none⟩))), (11, .fn 75 [.ltr 3 0, .ltr 3 1])], ⟨[(3, .held (Boxes A l.length cap b))], [], []⟩⟩)
    [.callx ⟨[], [], []⟩ 3 72 [.v (.pointer (some ⟨b, 0, none⟩)), .v (.slice A l.length cap)] (.fn 75 [.ltr 3 0, .ltr 3 1]) (Boxes A l.length cap b)] S (by kernel_rfl) (by kernel_rfl) (by kernel_rfl)
    ⟨⟨enters_72, fun E W R hm => by simp only [SV.vals, SV.val, Env.updX_same]; exact (drawsOf_ok b A l.length cap W).mono fun e w' hx => by obtain ⟨v, k1, k2, k3, k4⟩ := hx; exact ⟨v, k1, k2, k3, k4.mono fun _ _ h => .inl h⟩⟩, trivial⟩ fun E a2 w2 S2 => ?_
  obtain ⟨x, y, hx, hy, nxy, bx, bY⟩ := (S2.sep.held 3 _ rfl).out
  have hb2 : Below w1.heap.size w1 w2 := S2.kept.below (Nat.le_refl _) (fun k _ h => by obtain ⟨x, hx, _⟩ := h; cases hx)
  have t0 := S2.slot 0 _ rfl
  have t4 := S2.slot 4 _ rfl
  have t5 := S2.slot 5 _ rfl
  have t6 := S2.slot 6 _ rfl
  have t11 := S2.slot 11 _ rfl
  have hz2 : a2.tmps.size = f54.ntmps := S2.size
  have hd2 : a2.defers = a1.defers := S2.defers
  simp only [SV.val, SV.vals, hx, hy] at t0 t4 t5 t6 t11
  rw [hd1] at hd2
  have d0 : Blk w2 b0 39 #[.slice none 0 0] := (hb2.block _ c0.lt).trans c0
  have d1 : Blk w2 b1 29 #[.int .i64 0, .int .i64 0, .int .i64 0] := (hb2.block _ c1.lt).trans c1
  have d2 : Blk w2 b2 32 #[.int .i64 0] := (hb2.block _ c2.lt).trans c2
  have hb02 : Below W.heap.size W w2 := hb1.trans (hb2.mono hb1.size)
  have sW := s0.later hb02
  have hB2 : Blk w2 b 92 (runCells p v) := (hb02.block _ hB.lt).trans hB
  clear S S2 c0 c1 c2 hd1 hz1 hx hy hb1 hb2
  have hS0 : ∀ k, k < W.heap.size → ¬ (k = b0 ∨ k = b1 ∨ k = b2) := fun k hk h => by rcases h with rfl | rfl | rfl <;> omega
  have hL2 : HeldIn (fun k => ¬ (k = b0 ∨ k = b1 ∨ k = b2) ∧ k ≠ b) w2 (Lines c v) := (hL.mono (R' := fun k => ¬ (k = b0 ∨ k = b1 ∨ k = b2) ∧ k ≠ b) fun k hk h => ⟨hS0 k hk, h⟩).later hb02
  have r2 : InR (fun k => ¬ (k = b0 ∨ k = b1 ∨ k = b2) ∧ k ≠ b) A l.length := fun bb off hl hA => by
    obtain ⟨b', off', hA', hlt, _⟩ := s0 hl
    have hA2 := hA
    rw [hA'] at hA2
    have e : b' = bb := by simpa using congrArg (fun o => (o.map Addr.block).getD 0) hA2
    exact ⟨hS0 bb (by omega), r0 bb off hl hA⟩
  have hseq := drawsSeq fuel c p l v b A cap xs q er w2 (fun k => k = b0 ∨ k = b1 ∨ k = b2) x y hv hh (by omega) h0 sW r2 bx ⟨fun h => by rcases h with h | h | h <;> subst h <;> exact absurd rfl (blk_ne bx (by assumption) (by decide)), blk_ne bx hB2 (by decide)⟩ bY ⟨fun h => by rcases h with h | h | h <;> subst h <;> exact absurd rfl (blk_ne bY (by assumption) (by decide)), blk_ne bY hB2 (by decide)⟩ hL2 hB2 (fun h => by rcases h with h | h | h <;> subst h <;> exact absurd rfl (blk_ne hB2 (by assumption) (by decide)))
  refine wp_block ?_
  refine (wpIn_wide (n := 0)).1 (rangeT_outer (F := FW none) rfl rfl (gf := 75) (by simp [Act.eval, t11]) trivial enters_75 hseq (Below.refl _ _) (fun _ => rfl) (fun k => k = b0 ∨ k = b1 ∨ k = b2) ?_ (fun k h => h.1) (fun k h => by subst h; exact hB2.lt) (fun a b hF hk => (hk.block _ hF.lt (fun h => by have := hB2.lt; omega)).trans hF) (AJ b b0 b1 b2 w2) (fun _ _ _ _ => False) (AJ.rest _ _ _ _ _) (fun _ => ⟨fun _ _ _ _ h => h.elim, fun _ _ _ h => h.elim⟩) ?_ ?_ ?_ (fun _ _ _ _ _ _ _ _ _ h => h.elim) ?_)
  · -- its own blocks are apart
    intro k h
    refine ⟨?_, fun h2 => h2.2.1 h, ?_⟩
    · rcases h with rfl | rfl | rfl
      · exact d0.lt
      · exact d1.lt
      · exact d2.lt
    · rcases h with rfl | rfl | rfl
      · exact blk_ne d0 hB2 (by decide)
      · exact blk_ne d1 hB2 (by decide)
      · exact blk_ne d2 hB2 (by decide)
  · exact ⟨⟨.slice none 0 0, World.ownsRow_nil _ _ _ _, d0, d1, d2, fun k h => by simp [Value.ownBlock] at h, fun k => by simp [Value.ownBlock]⟩, Kept.refl _ _⟩
  · -- a round
    intro m ln pre z rest W2 S K hl hlt hSl hxs hI hg hK
    obtain ⟨⟨V, hG, k0, k1, k2, hVB, hS⟩, _⟩ := hI
    have SR : St ⟨W2, inCB [], f54.ntmps, [], allR, rhoOf [], (envOf []).sl, (envOf []).x⟩ ⟨[(4, .v (.pointer (some ⟨b0, 0, none⟩))), (12, .agg (dSV z))], ⟨[], [], []⟩⟩ (envC [] [] []) { tmps := (#[12].zip (encD z)).foldl (fun t (p, v) => t.setIfInBounds p v) a2.tmps, defers := [] } W2 :=
      St.make [] ⟨by simp [t4, SV.val], by simp [SV.val, SV.vals, hz2, show f54.ntmps = 22 from rfl], trivial⟩ (by simp [hz2]) rfl trivial trivial
    refine sym_openI (ro := some ln) ?_
    refine sym_runI lay_ok [(0, { g := 0 })] 0 2 (⟨[(7, .own 0 0), (4, .v (.pointer (some ⟨b0, 0, none⟩))), (12, .agg (dSV z))], ⟨[(0, .blk 36 (dSV z)), (0, .blk 36 [.v (.int .i64 0), .v (.int .i64 0), .v (.int .i64 0)])], [], []⟩⟩) [] SR (by kernel_rfl) (by kernel_rfl) (by kernel_rfl) trivial fun E1 a3 W3 S1 => ?_
    refine sym_doneI rfl ?_
    refine out_then_normal ?_
    have hb3 : Below W2.heap.size W2 W3 := S1.kept.below (Nat.le_refl _) (fun k _ h => by obtain ⟨x, hx, _⟩ := h; cases hx)
    have u4 := S1.slot 4 _ rfl
    have u7 := S1.slot 7 _ rfl
    have kx : Blk W3 (E1.ρ 0) 36 (dCells z).toArray := S1.mem.blk 0 _ _ rfl
    have hge : W2.heap.size ≤ E1.ρ 0 := by
      rcases S1.sep.base 0 _ _ rfl with h | ⟨x, hx, _⟩
      · exact h
      · cases hx
    have hz3 : a3.tmps.size = f54.ntmps := S1.size
    simp only [SV.val] at u4 u7
    generalize E1.ρ 0 = bz at *
    clear S1 SR
    refine hK a3 W3 hb3 fun W4 hz4 hk4 _ hI4 => ?_
    obtain ⟨⟨V4, hG4, e0, e1, e2, hVB4, hS4⟩, hKp⟩ := hI4
    have kx4 : Blk W4 bz 36 (dCells z).toArray := (hk4.block bz kx.lt (fun e => by omega)).trans kx
    have hSlt : ∀ k, S k → k < W2.heap.size := fun k hk => by
      rcases (hS k).1 hk with rfl | rfl | rfl | h
      · exact k0.lt
      · exact k1.lt
      · exact k2.lt
      · exact (World.ownsRow.lt hG k h).2
    have row36 : ∀ k, V4.ownBlock = some k → ∃ cur, Blk W4 k 36 cur := fun k hk => by
      rcases hG4.2 with ⟨h1, _⟩ | ⟨g, cp, cur, h1, _, hg, _⟩
      · rw [h1] at hk; simp [Value.ownBlock] at hk
      · rw [h1] at hk
        simp only [Value.ownBlock, Option.some.injEq] at hk
        subst hk
        exact ⟨cur, hg⟩
    have hN : ∀ k, V4.ownBlock = some k → NotCB k [⟨1000, b0, 39, [.gr 0]⟩, ⟨1001, bz, 36, dSV z⟩] := fun k hk => by
      obtain ⟨cur, hc⟩ := row36 k hk
      exact ⟨blk_ne hc e0 (by decide), fun e => by have := hSlt k ((hS4 k).2 (.inr (.inr (.inr hk)))); simp only at e; omega, trivial⟩
    have S4 := St.make2 [⟨1000, b0, 39, [.gr 0]⟩, ⟨1001, bz, 36, dSV z⟩] 0 (dGQ pre) V4 (slots := [(4, .own 1000 0), (7, .own 1001 0)]) (a := a3) (n := f54.ntmps) ⟨u4, u7, trivial⟩ hz3 ⟨e0, kx4, trivial⟩ ⟨⟨blk_ne e0 kx4 (by decide), trivial⟩, trivial, trivial⟩ hG4 hN
    refine wpIn_block ?_
    refine sym_openI (ro := some ln) ?_
    refine sym_runI lay_ok [(2, { g := 0 })] 0 3 (⟨[(15, .row 0 0 1 1), (14, .agg (dSV z)), (13, .gr 0), (4, .own 1000 0), (7, .own 1001 0)], ⟨[(0, .blk 36 (dSV z)), (1000, .blk 39 [.gr 0]), (1001, .blk 36 (dSV z))], [], [(0, dGQ pre)]⟩⟩) [] S4 (by kernel_rfl) (by kernel_rfl) (by kernel_rfl) trivial fun E5 a5 W5 S5 => ?_
    have hlen : pre.length + 1 ≤ 1000000 := by
      have := hand_len hh
      have := congrArg List.length hxs
      simp only [List.length_append, List.length_cons] at this
      omega
    refine sym_appendI lay_ok rfl (.tmp 13) (.tmp 15) 39 rfl rfl S5 0 0 0 1 1 36 (dSV z) (dGQ pre) ((look LAY 36).get (by kernel_rfl)) ((look LAY 39).get (by kernel_rfl)) rfl rfl rfl rfl (Option.some_get _).symm (by kernel_rfl) (Option.some_get _).symm (by kernel_rfl) (show 0 < 3 by decide) rfl rfl (fun e he => by cases he; exact Nat.lt_of_succ_le (Nat.le_of_ble_eq_true rfl)) (dGQ (pre ++ [z])) rfl rfl (by simp) (fun E => by simp [SV.vals, SV.val]) (by simp only; omega) ?_ rfl fun v0 E6 a6 W6 S6 => ?_
    · rw [show ((look LAY 36).get (by kernel_rfl)).by' = 24 from by kernel_rfl]
      simp only
      omega
    refine sym_runI lay_ok [] 4 1 (⟨[(16, .gr 0), (15, .row 0 0 1 1), (14, .agg (dSV z)), (13, .v v0), (4, .own 1000 0), (7, .own 1001 0)], ⟨[(1000, .blk 39 [.gr 0]), (0, .blk 36 (dSV z)), (1000, .blk 39 [.v v0]), (1001, .blk 36 (dSV z))], [], [(0, dGQ (pre ++ [z])), (0, dGQ pre)]⟩⟩) [] S6 (by kernel_rfl) (by kernel_rfl) (by kernel_rfl) trivial fun E7 a7 W7 S7 => ?_
    refine sym_doneI rfl ?_
    refine out_block_normal ?_
    have f0 := S7.mem.blk 1000 _ _ rfl
    have f1 := S7.mem.blk 1001 _ _ rfl
    have p0 : E7.ρ 1000 = b0 := S7.pin.1 1000 (by decide)
    have p1 : E7.ρ 1001 = bz := S7.pin.1 1001 (by decide)
    have m0 := S7.sep.mix 1000 0 _ _ _ rfl rfl
    have m1 := S7.sep.mix 1001 0 _ _ _ rfl rfl
    have gb := S7.sep.ginj.2 0 (dGQ (pre ++ [z]))
    have G7 := S7.mem.gr 0 _ rfl
    have hk7 := S7.kept
    rw [p0] at f0 m0
    rw [p1] at f1 m1
    simp only [SV.vals, SV.val] at f0 f1
    generalize E7.gr 0 = V7 at *
    have hbS : ∀ k, (inCB [⟨1000, b0, 39, [.gr 0]⟩, ⟨1001, bz, 36, dSV z⟩] k ∨ V4.ownBlock = some k) → k = b0 ∨ k = bz ∨ V4.ownBlock = some k := fun k h => by
      rcases h with ⟨x, hx, rfl⟩ | h
      · simp only [List.mem_cons, List.not_mem_nil, or_false] at hx
        rcases hx with rfl | rfl
        · exact .inl rfl
        · exact .inr (.inl rfl)
      · exact .inr (.inr h)
    have hkS : Kept S W4 W7 := ⟨hk7.os, hk7.tape, hk7.output, hk7.size, fun k hk hn => by
      by_cases e : k = bz
      · subst e; exact f1.trans kx4.symm
      · exact hk7.block k hk (fun h => by
          rcases hbS k h with rfl | h | h
          · exact hn ((hS4 _).2 (.inl rfl))
          · exact e h
          · exact hn ((hS4 _).2 (.inr (.inr (.inr h)))))⟩
    have hV7 : ∀ k, V7.ownBlock = some k → V4.ownBlock = some k ∨ W4.heap.size ≤ k := fun k hk => by
      rcases gb k rfl hk with h | h
      · exact .inr h
      · rcases hbS k h with rfl | rfl | h
        · exact absurd hk m0
        · exact absurd hk m1
        · exact .inl h
    refine ⟨fun k => k = b0 ∨ k = b1 ∨ k = b2 ∨ V7.ownBlock = some k, fun k hk => ?_, hkS, ⟨V7, G7, f0, ?_, ?_, fun k hk => ?_, fun k => Iff.rfl⟩, ⟨hkS.os.trans hKp.os, hkS.tape.trans hKp.tape, hkS.output.trans hKp.output, Nat.le_trans hKp.size hkS.size, fun k hlt hn => (hkS.block k (Nat.lt_of_lt_of_le hlt hKp.size) (fun hs => ?_)).trans (hKp.block k hlt hn)⟩⟩
    · rcases hk with h | h | h | h
      · exact .inl ((hS4 k).2 (.inl h))
      · exact .inl ((hS4 k).2 (.inr (.inl h)))
      · exact .inl ((hS4 k).2 (.inr (.inr (.inl h))))
      · rcases hV7 k h with h | h
        · exact .inl ((hS4 k).2 (.inr (.inr (.inr h))))
        · exact .inr h
    · refine (hk7.block b1 e1.lt (fun h => ?_)).trans e1
      rcases hbS b1 h with h | h | h
      · exact blk_ne e1 e0 (by decide) h
      · exact blk_ne e1 kx4 (by decide) h
      · obtain ⟨cur, hc⟩ := row36 _ h
        exact blk_ne e1 hc (by decide) rfl
    · refine (hk7.block b2 e2.lt (fun h => ?_)).trans e2
      rcases hbS b2 h with h | h | h
      · exact blk_ne e2 e0 (by decide) h
      · exact blk_ne e2 kx4 (by decide) h
      · obtain ⟨cur, hc⟩ := row36 _ h
        exact blk_ne e2 hc (by decide) rfl
    · rcases hV7 k hk with h | h
      · exact hVB4 k h
      · have := hb3.size
        omega
    · rcases (hS4 k).1 hs with h | h | h | h
      · exact hn (.inl h)
      · exact hn (.inr (.inl h))
      · exact hn (.inr (.inr (.inl h)))
      · have := hVB4 k h; omega
  · -- all is drawn
    intro D S W5 hD hDl hSD hI hg hdi hF hDd
    obtain ⟨⟨V, hG, k0, k1, k2, hVB, hS⟩, hKp⟩ := hI
    cases er with
    | some k => cases hdi
    | none =>
    obtain ⟨A', c', rfl⟩ := gr_slice hG
    have hDn : D ≠ b0 ∧ D ≠ b1 ∧ D ≠ b2 := ⟨fun e => hSD ((hS D).2 (.inl e)), fun e => hSD ((hS D).2 (.inr (.inl e))), fun e => hSD ((hS D).2 (.inr (.inr (.inl e))))⟩
    refine out_block_normal ?_
    refine out_then_normal ?_
    have S0 := St.make [⟨1000, b0, 39, [.v (.slice A' xs.length c')]⟩, ⟨1001, b1, 29, [.v (.int .i64 0), .v (.int .i64 0), .v (.int .i64 0)]⟩, ⟨1002, b2, 32, [.v (.int .i64 0)]⟩, ⟨1003, b, 92, [.v (.int .i64 q.volume), .v (.int .i64 q.alcohol.lo), .v (.int .i64 q.alcohol.hi), .v (.func (.func 74) #[] #[v 0, v 1, v 2]), .v (.func (.func 74) #[] #[v 3, v 4, v 5])]⟩] (slots := [(0, .own 1003 0), (4, .own 1000 0), (5, .own 1001 0), (6, .own 1002 0)]) (a := ⟨a2.tmps, []⟩) (w := W5) (n := f54.ntmps) ⟨t0, t4, t5, t6, trivial⟩ hz2 rfl ⟨k0, k1, k2, hF, trivial⟩
      ⟨⟨blk_ne k0 k1 (by decide), blk_ne k0 k2 (by decide), blk_ne k0 hF (by decide), trivial⟩, ⟨blk_ne k1 k2 (by decide), blk_ne k1 hF (by decide), trivial⟩, ⟨blk_ne k2 hF (by decide), trivial⟩, trivial, trivial⟩
    have SR := S0.frame (a' := { a2 with defers := { target := .collected D, args := #[] } :: a2.defers }) S0.slot hz2
    clear S0
    refine sym_seq lay_ok mixed [] [4, 5, 6] [1000, 1001, 1002] (⟨[(4, .own 1000 0), (5, .own 1001 0), (6, .own 1002 0)], ⟨[(1000, .blk 39 [.v (.slice A' xs.length c')]), (1001, .blk 29 [.v (.int .i64 q.volume), .v (.int .i64 q.alcohol.lo), .v (.int .i64 q.alcohol.hi)]), (1002, .blk 32 [.v (.int .i64 0)])], [], []⟩⟩) [] SR (by kernel_rfl) (by kernel_rfl) (by kernel_rfl) trivial fun E9 a9 W9 S9 => ?_
    refine wp_ret ?_
    have f0 := S9.mem.blk 1000 _ _ rfl
    have f1 := S9.mem.blk 1001 _ _ rfl
    have f2 := S9.mem.blk 1002 _ _ rfl
    have q0 : E9.ρ 1000 = b0 := S9.pin.1 1000 (by decide)
    have q1 : E9.ρ 1001 = b1 := S9.pin.1 1001 (by decide)
    have q2 : E9.ρ 1002 = b2 := S9.pin.1 1002 (by decide)
    have u4 := S9.slot 4 _ rfl
    have u5 := S9.slot 5 _ rfl
    have u6 := S9.slot 6 _ rfl
    have hd9 : a9.defers = { target := .collected D, args := #[] } :: a2.defers := S9.defers
    have hz9 : a9.tmps.size = f54.ntmps := S9.size
    have hk9 : Kept (fun k => k = b0 ∨ k = b1 ∨ k = b2 ∨ k = b) W5 W9 := S9.kept.mono fun k _ h => by
      obtain ⟨x, hx, rfl⟩ := h
      simp only [List.mem_cons, List.not_mem_nil, or_false] at hx
      rcases hx with rfl | rfl | rfl | rfl
      · exact .inl rfl
      · exact .inr (.inl rfl)
      · exact .inr (.inr (.inl rfl))
      · exact .inr (.inr (.inr rfl))
    simp only [SV.vals, SV.val] at f0 f1 f2 u4 u5 u6
    rw [q0] at f0 u4
    rw [q1] at f1 u5
    rw [q2] at f2 u6
    clear S9 SR q0 q1 q2
    have hDb : D ≠ b := fun e => by have := hB2.lt; omega
    have hD9 : W9.heap[D]? = some (.deferred (some [])) := (hk9.block D hDl (fun h => h.elim hDn.1 fun h => h.elim hDn.2.1 fun h => h.elim hDn.2.2 hDb)).trans hDd
    have hkD : Kept (fun k => k = D) W9 (W9.putObj D (.deferred none)) := (Kept.refl (fun k => k = D) W9).putObj (r := D) rfl _
    have g0 : Blk (W9.putObj D (.deferred none)) b0 39 _ := (hkD.block b0 f0.lt (fun e => hDn.1 e.symm)).trans f0
    have g1 : Blk (W9.putObj D (.deferred none)) b1 29 _ := (hkD.block b1 f1.lt (fun e => hDn.2.1 e.symm)).trans f1
    have g2 : Blk (W9.putObj D (.deferred none)) b2 32 _ := (hkD.block b2 f2.lt (fun e => hDn.2.2 e.symm)).trans f2
    have hG10 : GrAt (W9.putObj D (.deferred none)) 0 (dGQ xs) (.slice A' xs.length c') := hG.move fun k hk => by
      have hlt := (World.ownsRow.lt hG k hk).2
      have row36 : ∃ cur, Blk W5 k 36 cur := by
        rcases hG.2 with ⟨h1, _⟩ | ⟨g, cp, cur, h1, _, hg, _⟩
        · rw [h1] at hk; simp [Value.ownBlock] at hk
        · rw [h1] at hk
          simp only [Value.ownBlock, Option.some.injEq] at hk
          subst hk
          exact ⟨cur, hg⟩
      obtain ⟨cur, hc⟩ := row36
      refine (hkD.block k (Nat.lt_of_lt_of_le hlt hk9.size) (fun e => hSD (e ▸ (hS k).2 (.inr (.inr (.inr hk)))))).trans (hk9.block k hlt (fun h => ?_))
      rcases h with h | h | h | h
      · exact blk_ne hc k0 (by decide) h
      · exact blk_ne hc k1 (by decide) h
      · exact blk_ne hc k2 (by decide) h
      · exact blk_ne hc hF (by decide) h
    show LeavesInM (FW none) 0 prog f54 a9.tmps _ a9.defers .returning W9
    rw [hd9, hd2]
    refine ⟨by simp, .inl ⟨D, _, rfl, run_takeDeferred hD9, ?_⟩⟩
    refine ⟨by simp, .inr ⟨(fun h => by cases h), .func 71, #[.pointer (some ⟨b0, 0, none⟩), .pointer (some ⟨b1, 0, none⟩), .pointer (some ⟨b2, 0, none⟩)], 71, #[.pointer (some ⟨b0, 0, none⟩), .pointer (some ⟨b1, 0, none⟩), .pointer (some ⟨b2, 0, none⟩)], rfl, (by simp only [invoke]; exact enters_71 _ _), fun _ _ => trivial, (catch_idle _ b0 b1 b2 _).mono ?_⟩⟩
    rintro e u' w6 ⟨rfl, rfl, rfl⟩
    have SF := St.make [⟨1000, b0, 39, [.v (.slice A' xs.length c')]⟩, ⟨1001, b1, 29, [.v (.int .i64 q.volume), .v (.int .i64 q.alcohol.lo), .v (.int .i64 q.alcohol.hi)]⟩, ⟨1002, b2, 32, [.v (.int .i64 0)]⟩] (slots := [(4, .own 1000 0), (5, .own 1001 0), (6, .own 1002 0)]) (a := ⟨a9.tmps, []⟩) (w := W9.putObj D (.deferred none)) (n := f54.ntmps) ⟨u4, u5, u6, trivial⟩ hz9 rfl ⟨g0, g1, g2, trivial⟩ ⟨⟨blk_ne g0 g1 (by decide), blk_ne g0 g2 (by decide), trivial⟩, ⟨blk_ne g1 g2 (by decide), trivial⟩, trivial, trivial⟩
    have hr := sym_results (fn := f54) lay_ok [.v (.slice A' xs.length c'), .agg [.v (.int .i64 q.volume), .v (.int .i64 q.alcohol.lo), .v (.int .i64 q.alcohol.hi)], .v (.int .i64 0)] (by kernel_rfl) SF
    refine ⟨_, hr, ?_, .slice A' xs.length c', rfl, rfl, ?_⟩
    · exact (((Kept.of_below (C := fun k => k = b) hb02).after hKp (fun j hj h => by rcases h with h | h | h | h <;> first | exact h | omega)).after hk9 (fun j hj h => by rcases h with h | h | h | h <;> first | exact h | omega)).after hkD (fun j hj h => by have := hb02.size; omega)
    · exact ⟨hG10, fun k hk => Nat.le_trans hb02.size (hVB k hk)⟩
  · -- an amount that could not be drawn
    intro ch D S W5 hdi hD hDl hSD hI hg hDd
    obtain ⟨⟨V, hG, k0, k1, k2, hVB, hS⟩, hKp⟩ := hI
    cases er with
    | none => cases hdi
    | some k =>
      simp only [Option.map_some, Option.some.injEq] at hdi
      subst hdi
      refine out_block_panic ?_
      refine out_then_panic ?_
      obtain ⟨A', c', rfl⟩ := gr_slice hG
      have hDn : D ≠ b0 ∧ D ≠ b1 ∧ D ≠ b2 := ⟨fun e => hSD ((hS D).2 (.inl e)), fun e => hSD ((hS D).2 (.inr (.inl e))), fun e => hSD ((hS D).2 (.inr (.inr (.inl e))))⟩
      have hkD : Kept (fun k => k = D) W5 (W5.putObj D (.deferred none)) := (Kept.refl (fun k => k = D) W5).putObj (r := D) rfl _
      have l0 : Blk (W5.putObj D (.deferred none)) b0 39 _ := (hkD.block b0 k0.lt (fun e => hDn.1 e.symm)).trans k0
      have l1 : Blk (W5.putObj D (.deferred none)) b1 29 _ := (hkD.block b1 k1.lt (fun e => hDn.2.1 e.symm)).trans k1
      have l2 : Blk (W5.putObj D (.deferred none)) b2 32 _ := (hkD.block b2 k2.lt (fun e => hDn.2.2 e.symm)).trans k2
      show LeavesInM (FW none) 0 prog f54 a2.tmps _ ({ target := .collected D, args := #[] } :: a2.defers) (.panicking (dieOf k)) W5
      rw [hd2]
      refine ⟨by simp, .inl ⟨D, _, rfl, run_takeDeferred hDd, ?_⟩⟩
      refine ⟨by simp, .inr ⟨(fun h => by cases h), .func 71, #[.pointer (some ⟨b0, 0, none⟩), .pointer (some ⟨b1, 0, none⟩), .pointer (some ⟨b2, 0, none⟩)], 71, #[.pointer (some ⟨b0, 0, none⟩), .pointer (some ⟨b1, 0, none⟩), .pointer (some ⟨b2, 0, none⟩)], rfl, (by simp only [invoke]; exact enters_71 _ _), fun _ _ => trivial, (catch_die _ b0 b1 b2 _ _ _ _ _ k _ l0 l1 l2 (blk_ne l0 l1 (by decide)) (blk_ne l0 l2 (by decide)) (blk_ne l1 l2 (by decide)) rfl ⟨rfl, rfl, rfl⟩ rfl).mono ?_⟩⟩
      rintro e u' w6 ⟨rfl, rfl, hk6, g0, g1, g2⟩
      have SF := St.make [⟨1000, b0, 39, [.v (.slice none 0 0)]⟩, ⟨1001, b1, 29, [.v (.int .i64 0), .v (.int .i64 0), .v (.int .i64 0)]⟩, ⟨1002, b2, 32, [.v (.int .i64 k)]⟩] (slots := [(4, .own 1000 0), (5, .own 1001 0), (6, .own 1002 0)]) (a := ⟨a2.tmps, []⟩) (w := w6) (n := f54.ntmps) ⟨t4, t5, t6, trivial⟩ hz2 rfl ⟨g0, g1, g2, trivial⟩ ⟨⟨blk_ne g0 g1 (by decide), blk_ne g0 g2 (by decide), trivial⟩, ⟨blk_ne g1 g2 (by decide), trivial⟩, trivial, trivial⟩
      have hr := sym_results (fn := f54) lay_ok [.v (.slice none 0 0), .agg [.v (.int .i64 0), .v (.int .i64 0), .v (.int .i64 0)], .v (.int .i64 k)] (by kernel_rfl) SF
      refine ⟨_, hr, ?_, rfl⟩
      exact (((Kept.of_below (C := fun k => k = b) hb02).after hKp (fun j hj h => by rcases h with h | h | h | h <;> first | exact h | omega)).after hkD (fun j hj h => by have := hb02.size; omega)).after hk6 (fun j hj h => by rcases h with h | h | h <;> omega)
theorem all_ok (fuel : Nat) (c : MCurve) (p : MPot) (l : List Int) (v : Nat → Value) (b : Nat) (A : Option Addr) (cap : Nat) (xs : List MDrawn) (q : MPot) (er : Option Int) (W : World) (hv : ∀ i, (v i).oneCell' = true)
    (hh : hand fuel c p l = some (xs, q, er)) (hl64 : l.length ≤ 1000000) (h0 : l.length ≤ cap) (s0 : SlAt W A l.length 1 fun i => [.int .i64 (l.getD i default)]) (r0 : InR (fun k => k ≠ b) A l.length) (hL : HeldIn (fun k => k ≠ b) W (Lines c v)) (hB : Blk W b 92 (runCells p v)) :
    Calls prog 54 #[.pointer (some ⟨b, 0, none⟩), .slice A l.length cap] W fun e w' => Kept (fun k => k = b) W w' ∧ match er with
      | none => ∃ u, e = .returned (.tuple #[u, .agg #[.int .i64 q.volume, .int .i64 q.alcohol.lo, .int .i64 q.alcohol.hi], .int .i64 0]) ∧ u.oneCell' = true ∧ HeldIn (fun k => W.heap.size ≤ k) w' (SliceIs 0 ⟨xs.length, 3, fun i => dCells (xs.getD i default)⟩ fun _ => u)
      | some k => e = .returned (.tuple #[.slice none 0 0, .agg #[.int .i64 0, .int .i64 0, .int .i64 0], .int .i64 k]) := by
  refine (all_okR fuel c p l v b A cap xs q er W hv hh hl64 h0 s0 r0 hL hB).mono fun e w' hT => ⟨hT.1, ?_⟩
  cases er with
  | none =>
    obtain ⟨u, h1, h2, h3, h4⟩ := hT.2
    exact ⟨u, h1, h2, GrAt.slice h3 h4 0 (fun _ => u) rfl _ (flat_get dCells 3 (fun _ => rfl) xs)⟩
  | some k => exact hT.2
end Go.Proofs.Ytnfahoomoelmcaa
