/- follow: a range over points, whoever hands them on. -/
import Derived.Test.YtlcccomdijdkaaaSyPass
namespace Go.Proofs.Ytlcccomdijdkaaa
open Go.RowKit Go.Proofs.Try

theorem Kept.after {C C' : Nat → Prop} {a b c : World} (h : Kept C a b) (k : Kept C' b c) (hC : ∀ j, j < a.heap.size → C' j → C j) : Kept C a c :=
  ⟨k.os.trans h.os, k.tape.trans h.tape, k.output.trans h.output, Nat.le_trans h.size k.size, fun j hj hn => (k.block j (Nat.lt_of_lt_of_le hj h.size) (fun hc => hn (hC j hj hc))).trans (h.block j hj hn)⟩

/-- the results, read -/
theorem sym_results {P : Program} {X : Ctx} {st : SState} {E : Env} {a : Act} {w : World} {lay : Lay} (hl : LayOK P lay) {fn : Func} (xs : List SV) (hr : resSV lay st fn.results.toList = some xs) (S : St X st E a w) : (results fn a.tmps).run P w = .ok ((retSV xs).val E) w := by
  have h1 := res_one (P := P) hl S _ _ hr
  have h2 : (fn.results.mapM (oneRes a)).run P w = .ok (SV.vals E xs).toArray w := by
    rw [Array.mapM_eq_mapM_toList]
    show ((fn.results.toList.mapM (oneRes a)).bind fun l => Sem.pure l.toArray).run P w = _
    have := Sem.run_bind (P := P) (w := w) (fn.results.toList.mapM (oneRes a)) (fun l => (Sem.pure l.toArray : Sem (Array Value)))
    refine this.trans ?_
    rw [h1]
    rfl
  have h3 : (results fn a.tmps) = (fn.results.mapM (oneRes a) >>= fun vs => (pure (if h : vs.size = 1 then vs[0] else .tuple vs) : Sem Value)) := by
    unfold results
    congr 1
  rw [h3, Sem.run_bind, h2]
  match xs with
  | [] => simp [SV.vals, retSV, SV.val, Sem.run_pure]
  | [x] => simp [SV.vals, retSV, Sem.run_pure]
  | x :: y :: r => simp [SV.vals, retSV, SV.val, Sem.run_pure]

/-- a function that ranges over an iterator is entered -/
theorem sym_enterM {P : Program} {f : FuncId} {fn : Func} {c : Code} {W : World} {T : Ending → World → Prop} (hf : P.funcs[f]? = some fn) (hb : fn.body = some c) (svs : List SV) (hn : Nat.ble svs.length fn.ntmps = true)
    (h : ∀ a, St ⟨W, noC, fn.ntmps, [], allR, noρ, (envOf []).sl, (envOf []).x⟩ ⟨argSlots 0 svs, ⟨[], [], []⟩⟩ (envOf []) a W → c.wp P (bodyPostM (FW none) 0 P fn T) a W) : Calls P f (SV.vals (envOf []) svs).toArray W T := by
  have hn := Nat.le_of_ble_eq_true hn
  refine (callsIn_wide (n := 0)).1 (callsIn_of_wp_marks (n := 0) hf hb trivial ((wpIn_wide (n := 0)).2 (h _ ⟨fun t sv ht => ?_, by simp [vals_length]; omega, rfl, Kept.refl _ _, ⟨fun g t cs hx => by simp [look] at hx, fun s q hq => by simp [look] at hq, fun k q hq => by simp [look] at hq, envOf_one (xs := []) (sls := []) trivial⟩,
    ⟨fun g t cs hx => by simp [look] at hx, fun g g' t t' cs cs' hx => by simp [look] at hx, ⟨fun k k' x y b hx => by simp [look] at hx, fun k x b hx => by simp [look] at hx⟩, fun g k t cs y hx => by simp [look] at hx, fun s q b off hq => by simp [look] at hq, fun g Φ hx => by simp [look] at hx⟩, fun _ _ => rfl, fun _ _ => rfl, fun _ _ => rfl⟩)))
  obtain ⟨_, h2⟩ := argSlots_look svs 0 t sv ht
  rw [Nat.sub_zero] at h2
  have hlt : t < svs.length := (List.getElem?_eq_some_iff.1 h2).1
  rw [Array.getElem?_append_left (by simp [vals_length, hlt])]
  simp [vals_get, h2]

theorem blk_ne {w : World} {g g' : Nat} {t t' : TypeId} {cs cs' : Array Value} (h : Blk w g t cs) (h' : Blk w g' t' cs') (ht : t ≠ t') : g ≠ g' := fun e => by
  subst e
  have := h.symm.trans h'
  simp only [Option.some.injEq, Obj.cells.injEq] at this
  exact ht this.2.1


theorem St.put {X : Ctx} {st : SState} {E : Env} {a : Act} {w : World} (S : St X st E a w) {d : Nat} (hd : Nat.blt d X.n = true) (sv : SV) : St X ⟨(d, sv) :: st.slots, st.m⟩ E (a.put (some d) (sv.val E)) w := by
  unfold St
  simp only [look_upd]
  exact StF.put S (Nat.lt_of_succ_le (Nat.le_of_ble_eq_true hd)) sv

theorem body_normal {P : Program} {fn : Func} {R : Ending → World → Prop} {a : Act} {w : World} (h : bodyPost P fn R .ret a w) : bodyPost P fn R .normal a w := h

theorem St.seed {X : Ctx} {st : SState} {E : Env} {a : Act} {w : World} (S : St X st E a w) (hb : st.m.blks = []) (hg : st.m.grs = []) (C : Nat → Prop) : St ⟨w, C, X.n, X.D, allR, E.ρ, E.sl, E.x⟩ st E a w :=
  S.rebase C fun k hk => by
    rcases hk with ⟨g, t, cs, hx, _⟩ | ⟨j, q, hq, _⟩
    · rw [hb] at hx; simp [look] at hx
    · rw [hg] at hq; simp [look] at hq


abbrev pCells (x : MPoint) : List Value := [.int .i64 x.kind, .int .i64 x.flow.lo, .int .i64 x.flow.hi, .int .i64 x.warm.lo, .int .i64 x.warm.hi, .int .i64 x.heat.lo, .int .i64 x.heat.hi, .int .i64 x.share.lo, .int .i64 x.share.hi]
abbrev pSV (x : MPoint) : List SV := [.v (.int .i64 x.kind), .v (.int .i64 x.flow.lo), .v (.int .i64 x.flow.hi), .v (.int .i64 x.warm.lo), .v (.int .i64 x.warm.hi), .v (.int .i64 x.heat.lo), .v (.int .i64 x.heat.hi), .v (.int .i64 x.share.lo), .v (.int .i64 x.share.hi)]
abbrev encP (x : MPoint) : Array Value := #[.agg (pCells x).toArray]
abbrev wSV (x : MWater) : List SV := [.v (.int .i64 x.flow.lo), .v (.int .i64 x.flow.hi), .v (.int .i64 x.warm.lo), .v (.int .i64 x.warm.hi)]
/-- behind a point, of whatever kind -/
def passM (c : MWater) (pre : List MWater) (p : MPoint) : Option (MWater × List MWater × Int) :=
  if p.kind = 0 then pass0 c pre p else if p.kind = 1 then pass1 c pre p else if p.kind = 2 then pass2 c pre p else if p.kind = 3 then pass3 c pre p else passX c pre p
theorem passM_ok (c : MWater) (pre : List MWater) (p : MPoint) (W : World) (b : Nat) (V : Value) (hB : Blk W b 91 #[.int .i64 c.flow.lo, .int .i64 c.flow.hi, .int .i64 c.warm.lo, .int .i64 c.warm.hi, V]) (hG : GrAt W 0 (wGQ pre) V) (hV : V.ownBlock ≠ some b) (res : MWater × List MWater × Int) (h : passM c pre p = some res) :
    Calls prog 54 #[.pointer (some ⟨b, 0, none⟩), .agg (pCells p).toArray] W fun e w' => e = .returned (.int .i64 res.2.2) ∧ Passed b V res.1 res.2.1 W w' := by
  unfold passM at h
  by_cases h0 : p.kind = 0
  · rw [if_pos h0] at h
    have := pass0_ok c pre p W b V hB hG hV res h
    rwa [← h0] at this
  rw [if_neg h0] at h
  by_cases h1 : p.kind = 1
  · rw [if_pos h1] at h
    have := pass1_ok c pre p W b V hB hG hV res h
    rwa [← h1] at this
  rw [if_neg h1] at h
  by_cases h2 : p.kind = 2
  · rw [if_pos h2] at h
    have := pass2_ok c pre p W b V hB hG hV res h
    rwa [← h2] at this
  rw [if_neg h2] at h
  by_cases h3 : p.kind = 3
  · rw [if_pos h3] at h
    have := pass3_ok c pre p W b V hB hG hV res h
    rwa [← h3] at this
  rw [if_neg h3] at h
  exact passX_ok c pre p W b V hB hG hV res h
/-- point after point -/
def followM : MWater → List MWater → List MPoint → Option (List MWater × Int)
  | _, pre, [] => some (pre, 0)
  | c, pre, p :: r => (passM c pre p).bind fun z => if z.2.2 = 0 then followM z.1 z.2.1 r else some (z.2.1, z.2.2)

/-- what the function has of its own while it goes on -/
def FI (b0 b1 b2 : Nat) (W0 : World) (xs : List MPoint) (res : List MWater × Int) (pre : List MPoint) (S : Nat → Prop) (W : World) : Prop :=
  ∃ c ws rest V, xs = pre ++ rest ∧ followM c ws rest = some res ∧ Blk W b0 29 #[.slice none 0 0] ∧ Blk W b1 30 #[.int .i64 0] ∧ Blk W b2 91 #[.int .i64 c.flow.lo, .int .i64 c.flow.hi, .int .i64 c.warm.lo, .int .i64 c.warm.hi, V] ∧ GrAt W 0 (wGQ ws) V ∧ V.ownBlock ≠ some b2 ∧
    (∀ k, V.ownBlock = some k → W0.heap.size ≤ k) ∧ (∀ k, S k ↔ (k = b0 ∨ k = b1 ∨ k = b2 ∨ V.ownBlock = some k)) ∧ Below W0.heap.size W0 W
/-- and where it has ended -/
def FX (b0 b1 : Nat) (W0 : World) (res : List MWater × Int) (S : Nat → Prop) (W : World) : Prop :=
  ∃ V, Blk W b0 29 #[V] ∧ Blk W b1 30 #[.int .i64 res.2] ∧ GrAt W 0 (wGQ res.1) V ∧ (∀ k, V.ownBlock = some k → W0.heap.size ≤ k) ∧ (∀ k, (k = b0 ∨ k = b1 ∨ V.ownBlock = some k) → S k) ∧ (∀ k, S k → k < W.heap.size) ∧ Below W0.heap.size W0 W
theorem below_on {W0 a b : World} {C : Nat → Prop} (h : Below W0.heap.size W0 a) (hk : Kept C a b) (hC : ∀ k, C k → W0.heap.size ≤ k) : Below W0.heap.size W0 b :=
  ⟨hk.os.trans h.os, hk.tape.trans h.tape, hk.output.trans h.output, Nat.le_trans h.size hk.size, fun k hlt => (hk.block k (Nat.lt_of_lt_of_le hlt h.size) (fun hc => by have := hC k hc; omega)).trans (h.block k hlt)⟩
theorem FI.rest (b0 b1 b2 : Nat) (W0 : World) (xs : List MPoint) (res : List MWater × Int) (B : Nat) (hB : W0.heap.size ≤ B) : RestM (fun _ => False) B (FI b0 b1 b2 W0 xs res) := by
  refine ⟨fun s S a b hJ hk => ?_, fun s S a hJ k hk => ?_⟩
  · obtain ⟨c, ws, rest, V, hx, hf, c0, c1, c2, hG, hV, hVB, hS, hbl⟩ := hJ
    have same : ∀ k, S k → k < a.heap.size → b.heap[k]? = a.heap[k]? := fun k hs hlt => hk.block k hlt (fun h => h.1 hs)
    exact ⟨c, ws, rest, V, hx, hf, (same b0 ((hS b0).2 (.inl rfl)) c0.lt).trans c0, (same b1 ((hS b1).2 (.inr (.inl rfl))) c1.lt).trans c1, (same b2 ((hS b2).2 (.inr (.inr (.inl rfl)))) c2.lt).trans c2, hG.move fun k hb => same k ((hS k).2 (.inr (.inr (.inr hb)))) (World.ownsRow.lt hG k hb).2, hV, hVB, hS,
      below_on hbl hk fun k h => by rcases h.2 with h | h; (omega); exact h.elim⟩
  · obtain ⟨c, ws, rest, V, hx, hf, c0, c1, c2, hG, hV, hVB, hS, hbl⟩ := hJ
    rcases (hS k).1 hk with rfl | rfl | rfl | hb
    · exact c0.lt
    · exact c1.lt
    · exact c2.lt
    · exact (World.ownsRow.lt hG k hb).2
theorem FX.rest {α : Type} (b0 b1 : Nat) (W0 : World) (res : List MWater × Int) (B : Nat) (hB : W0.heap.size ≤ B) (p : Prop) : RestM (fun _ => False) B (fun (_ : List α) S W => p ∧ FX b0 b1 W0 res S W) := by
  refine ⟨fun s S a b hJ hk => ?_, fun s S a hJ k hk => ?_⟩
  · obtain ⟨hp, V, c0, c1, hG, hVB, hS, hlt, hbl⟩ := hJ
    have same : ∀ k, S k → k < a.heap.size → b.heap[k]? = a.heap[k]? := fun k hs hlt => hk.block k hlt (fun h => h.1 hs)
    exact ⟨hp, V, (same b0 (hS b0 (.inl rfl)) c0.lt).trans c0, (same b1 (hS b1 (.inr (.inl rfl))) c1.lt).trans c1, hG.move fun k hb => same k (hS k (.inr (.inr hb))) (World.ownsRow.lt hG k hb).2, hVB, hS, fun k hs => Nat.lt_of_lt_of_le (hlt k hs) hk.size,
      below_on hbl hk fun k h => by rcases h.2 with h | h; (omega); exact h.elim⟩
  · obtain ⟨hp, V, c0, c1, hG, hVB, hS, hlt, hbl⟩ := hJ
    exact hlt k hk
/-- what a call of it returns -/
abbrev FolPost (W0 : World) (res : List MWater × Int) : Ending → World → Prop := fun e w' => ∃ v : Nat → Value, e = .returned (.tuple #[v 0, .int .i64 res.2]) ∧ Below W0.heap.size W0 w' ∧ (∀ i, (v i).oneCell' = true) ∧ HeldIn (fun k => W0.heap.size ≤ k) w' (SlicesAre 0 [⟨res.1.length, 4, fun i => wCells (res.1.getD i default)⟩] v)
set_option maxRecDepth 100000 in
theorem fol_leave {W0 W5 : World} {a : Act} {b0 b1 D : Nat} {V : Value} {res : List MWater × Int} {ds : List Deferred} (hz : a.tmps.size = f35.ntmps) (t4 : a.tmps[4]? = some (.pointer (some ⟨b0, 0, none⟩))) (t5 : a.tmps[5]? = some (.pointer (some ⟨b1, 0, none⟩))) (k0 : Blk W5 b0 29 #[V]) (k1 : Blk W5 b1 30 #[.int .i64 res.2]) (hG : GrAt W5 0 (wGQ res.1) V)
    (hVB : ∀ k, V.ownBlock = some k → W0.heap.size ≤ k) (hbl : Below W0.heap.size W0 W5) (hDd : W5.heap[D]? = some (.deferred (some []))) (hDN : W0.heap.size ≤ D) (hD : D ≠ b0 ∧ D ≠ b1 ∧ V.ownBlock ≠ some D) (hds : ds = [{ target := .collected D, args := #[] }]) :
    LeavesInM (FW none) 0 prog f35 a.tmps (FolPost W0 res) ds .returning W5 := by
  subst hds
  refine ⟨by simp, .inl ⟨D, _, rfl, run_takeDeferred hDd, ?_⟩⟩
  have hkD : Kept (fun k => k = D) W5 (W5.putObj D (.deferred none)) := (Kept.refl (fun k => k = D) W5).putObj (r := D) rfl _
  have g0 : Blk (W5.putObj D (.deferred none)) b0 29 _ := (hkD.block b0 k0.lt (fun e => hD.1 e.symm)).trans k0
  have g1 : Blk (W5.putObj D (.deferred none)) b1 30 _ := (hkD.block b1 k1.lt (fun e => hD.2.1 e.symm)).trans k1
  have hG' : GrAt (W5.putObj D (.deferred none)) 0 (wGQ res.1) V := hG.move fun k hk => hkD.block k (World.ownsRow.lt hG k hk).2 (fun e => hD.2.2 (e ▸ hk))
  obtain ⟨A, c, rfl⟩ := gr_slice hG
  have SF := St.make [⟨1000, b0, 29, [.v (.slice A res.1.length c)]⟩, ⟨1001, b1, 30, [.v (.int .i64 res.2)]⟩] (slots := [(4, .own 1000 0), (5, .own 1001 0)]) (a := ⟨a.tmps, []⟩) (w := W5.putObj D (.deferred none)) (n := f35.ntmps) ⟨t4, t5, trivial⟩ hz rfl ⟨g0, g1, trivial⟩ ⟨⟨blk_ne g0 g1 (by decide), trivial⟩, trivial, trivial⟩
  have hr := sym_results (fn := f35) lay_ok [.v (.slice A res.1.length c), .v (.int .i64 res.2)] (by kernel_rfl) SF
  refine ⟨_, hr, fun _ => .slice A res.1.length c, rfl, below_on hbl hkD (fun k h => by omega), fun _ => rfl, ?_⟩
  exact (GrAt.slice hG' hVB 0 (fun _ => .slice A res.1.length c) rfl _ (flat_get wCells 4 (fun _ => rfl) res.1)).and (.true fun _ => trivial)

set_option maxRecDepth 100000 in
set_option maxHeartbeats 4000000 in
theorem follow_ok (c0 : MWater) (xs : List MPoint) (gf : Nat) (lb : Array Value) (DD : Nat → Prop) (W : World) (res : List MWater × Int) (h : followM c0 [] xs = some res) (eg : EntersOK prog gf)
    (hseq : SeqT (FW none) prog gf lb encP xs none (fun _ => False) DD (fun _ => True) W) (hDD : ∀ k, DD k → k < W.heap.size) :
    Calls prog 35 #[.agg (wCells c0).toArray, .func (.func gf) #[] lb] W (FolPost W res) := by
  refine sym_enterM (f := 35) (fn := f35) (c := f35.body.get rfl) func35 rfl [.agg (wSV c0), .v (.func (.func gf) #[] lb)] (by kernel_rfl) fun a0 S => ?_
  refine sym_seq lay_ok mixed [(0, { g := 0 }), (1, { g := 1 }), (2, { g := 2 })] [1, 2, 4, 5] [0, 1, 2] (⟨[(1, .v (.func (.func gf) #[] lb)), (2, .own 0 0), (4, .own 1 0), (5, .own 2 0)], ⟨[(0, .blk 25 (wSV c0)), (1, .blk 29 [.v (.slice none 0 0)]), (2, .blk 30 [.v (.int .i64 0)])], [], []⟩⟩) [] S (by kernel_rfl) (by kernel_rfl) (by kernel_rfl) trivial fun E a1 w1 S1 => ?_
  refine sym_seq lay_ok mixed [(2, { g := 3 })] [1, 4, 5, 6] [1, 2, 3] (⟨[(1, .v (.func (.func gf) #[] lb)), (4, .own 1 0), (5, .own 2 0), (6, .own 3 0)], ⟨[(1, .blk 29 [.v (.slice none 0 0)]), (2, .blk 30 [.v (.int .i64 0)]), (3, .blk 91 (wSV c0 ++ [.v (.slice none 0 0)]))], [], []⟩⟩) [] S1 (by kernel_rfl) (by kernel_rfl) (by kernel_rfl) trivial fun E a1 w1 S1 => ?_
  refine wp_seq ?_
  refine sym_seq lay_ok mixed [] [4, 5, 6, 11] [1, 2, 3] (⟨[(4, .own 1 0), (5, .own 2 0), (6, .own 3 0), (11, .v (.func (.func gf) #[] lb))], ⟨[(1, .blk 29 [.v (.slice none 0 0)]), (2, .blk 30 [.v (.int .i64 0)]), (3, .blk 91 (wSV c0 ++ [.v (.slice none 0 0)]))], [], []⟩⟩) [] S1 (by kernel_rfl) (by kernel_rfl) (by kernel_rfl) trivial fun E a2 w2 S2 => ?_
  have c0' : Blk w2 (E.ρ 1) 29 #[.slice none 0 0] := S2.mem.blk 1 _ _ rfl
  have c1' : Blk w2 (E.ρ 2) 30 #[.int .i64 0] := S2.mem.blk 2 _ _ rfl
  have c2' : Blk w2 (E.ρ 3) 91 #[.int .i64 c0.flow.lo, .int .i64 c0.flow.hi, .int .i64 c0.warm.lo, .int .i64 c0.warm.hi, .slice none 0 0] := S2.mem.blk 3 _ _ rfl
  have n0 : W.heap.size ≤ E.ρ 1 := (S2.sep.base 1 _ _ rfl).resolve_right (fun h => h)
  have n1 : W.heap.size ≤ E.ρ 2 := (S2.sep.base 2 _ _ rfl).resolve_right (fun h => h)
  have n2 : W.heap.size ≤ E.ρ 3 := (S2.sep.base 3 _ _ rfl).resolve_right (fun h => h)
  have t4 := S2.slot 4 _ rfl
  have t5 := S2.slot 5 _ rfl
  have t6 := S2.slot 6 _ rfl
  have t11 := S2.slot 11 _ rfl
  have hz2 : a2.tmps.size = f35.ntmps := S2.size
  have hd2 : a2.defers = [] := S2.defers
  have hb2 : Below W.heap.size W w2 := S2.kept.below (Nat.le_refl _) (fun k _ h => h)
  clear S S1 S2
  simp only [SV.val] at t4 t5 t6 t11
  generalize E.ρ 1 = b0 at *
  generalize E.ρ 2 = b1 at *
  generalize E.ρ 3 = b2 at *
  clear E
  refine wp_block ?_
  refine (wpIn_wide (n := 0)).1 (rangeT_outer (F := FW none) rfl rfl (gf := gf) (by simp [Act.eval, t11]) trivial eg hseq hb2 (fun _ => rfl) (fun k => k = b0 ∨ k = b1 ∨ k = b2) ?_ (fun k h => Nat.lt_of_lt_of_le (hDD k h) hb2.size) (fun k h => h.elim) (fun _ _ _ _ => trivial) (FI b0 b1 b2 W xs res) (fun cd _ S W' => cd = .ret ∧ FX b0 b1 W res S W') (FI.rest _ _ _ _ _ _ _ hb2.size) (fun cd => FX.rest _ _ _ _ _ hb2.size _) ?_ ?_ ?_ ?_ (fun _ _ _ _ h => by cases h))
  · intro k hk
    rcases hk with rfl | rfl | rfl
    · exact ⟨c0'.lt, fun h2 => by have := hDD _ h2; omega, fun h => h⟩
    · exact ⟨c1'.lt, fun h2 => by have := hDD _ h2; omega, fun h => h⟩
    · exact ⟨c2'.lt, fun h2 => by have := hDD _ h2; omega, fun h => h⟩
  · exact ⟨c0, [], xs, .slice none 0 0, rfl, h, c0', c1', c2', World.ownsRow_nil _ _ _ _, by simp [Value.ownBlock], fun k h => by simp [Value.ownBlock] at h, fun k => by simp [Value.ownBlock], hb2⟩
  · -- a round
    intro m ln pre x rest W2 S K hl hlt hSl hxs hI hg hK
    have SR : St ⟨W2, inCB [], f35.ntmps, [], allR, rhoOf [], (envOf []).sl, (envOf []).x⟩ ⟨[(4, .v (.pointer (some ⟨b0, 0, none⟩))), (5, .v (.pointer (some ⟨b1, 0, none⟩))), (6, .v (.pointer (some ⟨b2, 0, none⟩))), (12, .agg (pSV x))], ⟨[], [], []⟩⟩ (envC [] [] []) { tmps := (#[12].zip (encP x)).foldl (fun t (p, v) => t.setIfInBounds p v) a2.tmps, defers := [] } W2 :=
      St.make [] ⟨by simp [t4, SV.val], by simp [t5, SV.val], by simp [t6, SV.val], by simp [SV.val, SV.vals, hz2, show f35.ntmps = 22 from rfl], trivial⟩ (by simp [hz2]) rfl trivial trivial
    refine sym_openI (ro := some ln) ?_
    refine sym_runIP lay_ok [(0, { g := 0 })] 0 2 [4, 5, 6, 7] [0] (⟨[(4, .v (.pointer (some ⟨b0, 0, none⟩))), (5, .v (.pointer (some ⟨b1, 0, none⟩))), (6, .v (.pointer (some ⟨b2, 0, none⟩))), (7, .own 0 0)], ⟨[(0, .blk 47 (pSV x))], [], []⟩⟩) [] SR (by kernel_rfl) (by kernel_rfl) (by kernel_rfl) trivial fun E1 a3 W3 S1 => ?_
    refine sym_doneI rfl ?_
    refine out_then_normal ?_
    have hb3 : Below W2.heap.size W2 W3 := S1.kept.below (Nat.le_refl _) (fun k _ h => by obtain ⟨x, hx, _⟩ := h; cases hx)
    have u4 := S1.slot 4 _ rfl
    have u5 := S1.slot 5 _ rfl
    have u6 := S1.slot 6 _ rfl
    have u7 := S1.slot 7 _ rfl
    have kx : Blk W3 (E1.ρ 0) 47 (pCells x).toArray := S1.mem.blk 0 _ _ rfl
    have hge : W2.heap.size ≤ E1.ρ 0 := by
      rcases S1.sep.base 0 _ _ rfl with h | ⟨x, hx, _⟩
      · exact h
      · cases hx
    have hz3 : a3.tmps.size = f35.ntmps := S1.size
    have hd3 : a3.defers = [] := S1.defers
    simp only [SV.val] at u4 u5 u6 u7
    generalize E1.ρ 0 = bz at *
    clear S1 SR E1
    have hSlt : ∀ k, S k → k < W2.heap.size := (FI.rest b0 b1 b2 W xs res W2.heap.size (Nat.le_trans hb2.size (by omega))).2 _ _ _ hI
    clear hI
    refine hK a3 W3 hb3 fun W4 hz4 hk4 _ hI4 => ?_
    obtain ⟨c, ws, rest', V, hx', hf, e0, e1, e2, hG, hVne, hVB, hS, hbl⟩ := hI4
    have hrest : rest' = x :: rest := by
      have := hx'.symm.trans hxs
      exact List.append_cancel_left this
    subst hrest
    have kx4 : Blk W4 bz 47 (pCells x).toArray := (hk4.block bz kx.lt (fun e => by have := kx.lt; omega)).trans kx
    simp only [followM] at hf
    obtain ⟨z, hz, hf⟩ := bind_some hf
    have S4 := St.make [⟨1001, bz, 47, pSV x⟩] (slots := [(4, .v (.pointer (some ⟨b0, 0, none⟩))), (5, .v (.pointer (some ⟨b1, 0, none⟩))), (6, .v (.pointer (some ⟨b2, 0, none⟩))), (7, .own 1001 0)]) (a := a3) (w := W4) (n := f35.ntmps) ⟨u4, u5, u6, u7, trivial⟩ hz3 hd3 ⟨kx4, trivial⟩ ⟨trivial, trivial⟩
    refine wpIn_block ?_
    refine wpIn_seq ?_
    refine sym_openI (ro := some ln) ?_
    refine sym_runIP lay_ok [] 0 1 [4, 5, 6, 13] [1001] (⟨[(4, .v (.pointer (some ⟨b0, 0, none⟩))), (5, .v (.pointer (some ⟨b1, 0, none⟩))), (6, .v (.pointer (some ⟨b2, 0, none⟩))), (13, .agg (pSV x))], ⟨[(1001, .blk 47 (pSV x))], [], []⟩⟩) [] S4 (by kernel_rfl) (by kernel_rfl) (by kernel_rfl) trivial fun E5 a5 W5 S5 => ?_
    have hbz : ∀ k, S k → k ≠ bz := fun k hk e => by have := hSlt k hk; omega
    have hkz : Kept (fun k => k = bz) W4 W5 := S5.kept.mono fun k _ h => by
      obtain ⟨y, hy, rfl⟩ := h
      rw [List.mem_singleton.1 hy]
    have kx5 : Blk W5 bz 47 (pCells x).toArray := by
      have := S5.mem.blk 1001 _ _ rfl
      rwa [show E5.ρ 1001 = bz from S5.pin.1 1001 (by decide)] at this
    have s0 := (hS b0).2 (.inl rfl)
    have s1 := (hS b1).2 (.inr (.inl rfl))
    have s2 := (hS b2).2 (.inr (.inr (.inl rfl)))
    have e0' : Blk W5 b0 29 _ := (hkz.block b0 e0.lt (hbz b0 s0)).trans e0
    have e1' : Blk W5 b1 30 _ := (hkz.block b1 e1.lt (hbz b1 s1)).trans e1
    have e2' : Blk W5 b2 91 _ := (hkz.block b2 e2.lt (hbz b2 s2)).trans e2
    have hG5 : GrAt W5 0 (wGQ ws) V := hG.move fun k hk => hkz.block k (World.ownsRow.lt hG k hk).2 (hbz k ((hS k).2 (.inr (.inr (.inr hk)))))
    have v4 := S5.slot 4 _ rfl
    have v5 := S5.slot 5 _ rfl
    have v6 := S5.slot 6 _ rfl
    have v13 := S5.slot 13 _ rfl
    have hz5 : a5.tmps.size = f35.ntmps := S5.size
    have hd5 : a5.defers = [] := S5.defers
    simp only [SV.val, SV.vals] at v4 v5 v6 v13
    clear S4 S5
    refine sym_callI (f := 54) (vs := #[.pointer (some ⟨b2, 0, none⟩), .agg (pCells x).toArray]) rfl rfl rfl (by simp [Act.eval, v6, v13]) enters_54 (passM_ok c ws x W5 b2 V e2' hG5 hVne z hz) ?_
    rintro e W6 ⟨rfl, V', d2, hG6, hV'ne, hV'B, hk6⟩
    refine .inl ⟨_, rfl, ?_⟩
    have row25 : ∀ k, V.ownBlock = some k → ∃ cur, Blk W5 k 25 cur := fun k hk => by
      rcases hG5.2 with ⟨h1, _⟩ | ⟨g, cp, cur, h1, _, hg, _⟩
      · rw [h1] at hk; simp [Value.ownBlock] at hk
      · rw [h1] at hk
        simp only [Value.ownBlock, Option.some.injEq] at hk
        subst hk
        exact ⟨cur, hg⟩
    have nV : ∀ {g t cs}, Blk W5 g t cs → t ≠ 25 → V.ownBlock ≠ some g := fun hb ht hv => by
      obtain ⟨cur, hc⟩ := row25 _ hv
      exact blk_ne hb hc ht rfl
    have d0 : Blk W6 b0 29 _ := (hk6.block b0 e0'.lt (fun h => h.elim (blk_ne e0' e2' (by decide)) (nV e0' (by decide)))).trans e0'
    have d1 : Blk W6 b1 30 _ := (hk6.block b1 e1'.lt (fun h => h.elim (blk_ne e1' e2' (by decide)) (nV e1' (by decide)))).trans e1'
    have dz : Blk W6 bz 47 _ := (hk6.block bz kx5.lt (fun h => h.elim (blk_ne kx5 e2' (by decide)) (nV kx5 (by decide)))).trans kx5
    have hVs' : ∀ k, V'.ownBlock = some k → V.ownBlock = some k ∨ W4.heap.size ≤ k := fun k hk => (hV'B k hk).imp id (fun h => Nat.le_trans hkz.size h)
    have hVB' : ∀ k, V'.ownBlock = some k → W.heap.size ≤ k := fun k hk => (hVs' k hk).elim (hVB k) (fun h => Nat.le_trans hbl.size h)
    have hkS6 : Kept S W4 W6 := ⟨hk6.os.trans hkz.os, hk6.tape.trans hkz.tape, hk6.output.trans hkz.output, Nat.le_trans hkz.size hk6.size, fun k hlt hn => by
      by_cases ez : k = bz
      · subst ez; exact dz.trans kx4.symm
      · exact (hk6.block k (Nat.lt_of_lt_of_le hlt hkz.size) (fun h => by
          rcases h with rfl | h
          · exact hn s2
          · exact hn ((hS k).2 (.inr (.inr (.inr h)))))).trans (hkz.block k hlt ez)⟩
    have hbl6 : Below W.heap.size W W6 := below_on hbl hkS6 fun k hk => by
      rcases (hS k).1 hk with rfl | rfl | rfl | h
      · exact n0
      · exact n1
      · exact n2
      · exact hVB k h
    have S6 := (St.make [] (slots := [(4, .v (.pointer (some ⟨b0, 0, none⟩))), (5, .v (.pointer (some ⟨b1, 0, none⟩))), (6, .v (.pointer (some ⟨b2, 0, none⟩)))]) (a := a5) (w := W6) (n := f35.ntmps) ⟨v4, v5, v6, trivial⟩ hz5 hd5 trivial trivial).put (d := 14) (by kernel_rfl) (.v (.int .i64 z.2.2))
    have hd6 : (a5.put (some 14) (.int .i64 z.2.2)).defers = [] := hd5
    simp only [SV.val] at S6
    generalize a5.put (some 14) (.int .i64 z.2.2) = a6 at S6 hd6 ⊢
    refine sym_runIP lay_ok [] 2 1 [4, 5, 6, 8] [] (⟨[(4, .v (.pointer (some ⟨b0, 0, none⟩))), (5, .v (.pointer (some ⟨b1, 0, none⟩))), (6, .v (.pointer (some ⟨b2, 0, none⟩))), (8, .v (.int .i64 z.2.2))], ⟨[], [], []⟩⟩) [] S6 (by kernel_rfl) (by kernel_rfl) (by kernel_rfl) trivial fun E7 a7 W7 S7 => ?_
    refine sym_doneI rfl ?_
    refine out_then_normal ?_
    refine wpIn_seq ?_
    refine sym_openI (ro := some ln) ?_
    refine sym_runIP lay_ok [] 0 2 [4, 5, 6, 8, 16] [] (⟨[(4, .v (.pointer (some ⟨b0, 0, none⟩))), (5, .v (.pointer (some ⟨b1, 0, none⟩))), (6, .v (.pointer (some ⟨b2, 0, none⟩))), (8, .v (.int .i64 z.2.2)), (16, .v (.bool (z.2.2 != 0)))], ⟨[], [], []⟩⟩) [] S7 (by kernel_rfl) (by kernel_rfl) (by kernel_rfl) trivial fun E8 a8 W8 S8 => ?_
    refine sym_doneI rfl ?_
    refine out_then_normal ?_
    have hk8 : Below W6.heap.size W6 W8 := S8.kept.below (Nat.le_refl _) (fun k _ h => by obtain ⟨x, hx, _⟩ := h; cases hx)
    have x4 := S8.slot 4 _ rfl
    have x5 := S8.slot 5 _ rfl
    have x6 := S8.slot 6 _ rfl
    have x8 := S8.slot 8 _ rfl
    have x16 := S8.slot 16 _ rfl
    have hz8 : a8.tmps.size = f35.ntmps := S8.size
    simp only [SV.val] at x4 x5 x6 x8 x16
    clear S6 S7 S8
    have hkS8 : Kept S W4 W8 := ⟨hk8.os.trans hkS6.os, hk8.tape.trans hkS6.tape, hk8.output.trans hkS6.output, Nat.le_trans hkS6.size hk8.size, fun k hlt hn => (hk8.block k (Nat.lt_of_lt_of_le hlt hkS6.size)).trans (hkS6.block k hlt hn)⟩
    have hbl8 : Below W.heap.size W W8 := hbl6.trans (hk8.mono hbl6.size)
    have d0 : Blk W8 b0 29 _ := (hk8.block _ d0.lt).trans d0
    have d1 : Blk W8 b1 30 _ := (hk8.block _ d1.lt).trans d1
    have d2 : Blk W8 b2 91 _ := (hk8.block _ d2.lt).trans d2
    have hG8 : GrAt W8 0 (wGQ z.2.1) V' := hG6.move fun k hk => hk8.block k (World.ownsRow.lt hG6 k hk).2
    refine wpIn_cond_split (t := z.2.2 != 0) (by simp [Act.eval, x16]) (fun hb => ?_) (fun hb => ?_)
    · -- it ends here
      have hne : z.2.2 ≠ 0 := by simpa using hb
      rw [if_neg hne] at hf
      have hres := Option.some.inj hf
      have row25' : ∀ k, V'.ownBlock = some k → ∃ cur, Blk W8 k 25 cur := fun k hk => by
        rcases hG8.2 with ⟨h1, _⟩ | ⟨g, cp, cur, h1, _, hg, _⟩
        · rw [h1] at hk; simp [Value.ownBlock] at hk
        · rw [h1] at hk
          simp only [Value.ownBlock, Option.some.injEq] at hk
          subst hk
          exact ⟨cur, hg⟩
      have nV' : ∀ {g t cs}, Blk W8 g t cs → t ≠ 25 → ∀ k, V'.ownBlock = some k → k ≠ g := fun hb ht k hv e => by
        obtain ⟨cur, hc⟩ := row25' _ hv
        exact blk_ne hc hb (fun h => ht h.symm) e
      refine wpIn_seq ?_
      have SX := St.make2 [⟨1000, b0, 29, [.v (.slice none 0 0)]⟩, ⟨1001, b1, 30, [.v (.int .i64 0)]⟩, ⟨1002, b2, 91, wSV z.1 ++ [SV.gr 0]⟩] 0 (wGQ z.2.1) V' (slots := [(4, .own 1000 0), (5, .own 1001 0), (6, .own 1002 0), (8, .v (.int .i64 z.2.2))]) (a := a8) (w := W8) (n := f35.ntmps) ⟨x4, x5, x6, x8, trivial⟩ hz8 ⟨d0, d1, d2, trivial⟩ ⟨⟨blk_ne d0 d1 (by decide), blk_ne d0 d2 (by decide), trivial⟩, ⟨blk_ne d1 d2 (by decide), trivial⟩, trivial, trivial⟩ hG8 (fun k hk => ⟨nV' d0 (by decide) k hk, nV' d1 (by decide) k hk, fun (e : k = b2) => hV'ne (e ▸ hk), trivial⟩)
      refine sym_openI (ro := some ln) ?_
      refine sym_runIP lay_ok [] 0 5 [] [1000, 1001] (⟨[], ⟨[(1000, .blk 29 [.gr 0]), (1001, .blk 30 [.v (.int .i64 z.2.2)])], [], [(0, wGQ z.2.1)]⟩⟩) [] SX (by kernel_rfl) (by kernel_rfl) (by kernel_rfl) trivial fun E9 a9 W9 S9 => ?_
      refine sym_doneI rfl ?_
      refine out_then_normal ?_
      refine wpIn_ret ?_
      have g0 := S9.mem.blk 1000 _ _ rfl
      have g1 := S9.mem.blk 1001 _ _ rfl
      have hG9 := S9.mem.gr 0 _ rfl
      have p0 : E9.ρ 1000 = b0 := S9.pin.1 1000 (by decide)
      have p1 : E9.ρ 1001 = b1 := S9.pin.1 1001 (by decide)
      have m0 := S9.sep.mix 1000 0 _ _ _ rfl rfl
      have gb := S9.sep.ginj.2 0 (wGQ z.2.1)
      have hk9 := S9.kept
      rw [p0] at g0 m0
      rw [p1] at g1
      simp only [SV.vals, SV.val] at g0 g1
      generalize E9.gr 0 = V9 at *
      have hC : ∀ k, (inCB [⟨1000, b0, 29, [.v (.slice none 0 0)]⟩, ⟨1001, b1, 30, [.v (.int .i64 0)]⟩, ⟨1002, b2, 91, wSV z.1 ++ [SV.gr 0]⟩] k ∨ V'.ownBlock = some k) → k = b0 ∨ k = b1 ∨ k = b2 ∨ V'.ownBlock = some k := fun k h => by
        rcases h with ⟨y, hy, rfl⟩ | h
        · simp only [List.mem_cons, List.not_mem_nil, or_false] at hy
          rcases hy with rfl | rfl | rfl
          · exact .inl rfl
          · exact .inr (.inl rfl)
          · exact .inr (.inr (.inl rfl))
        · exact .inr (.inr (.inr h))
      have hCW : ∀ k, (k = b0 ∨ k = b1 ∨ k = b2 ∨ V'.ownBlock = some k) → W.heap.size ≤ k := fun k h => by
        rcases h with rfl | rfl | rfl | h
        · exact n0
        · exact n1
        · exact n2
        · exact hVB' k h
      have hV9 : ∀ k, V9.ownBlock = some k → W.heap.size ≤ k := fun k hk => by
        rcases gb k rfl hk with h | h
        · exact Nat.le_trans hbl8.size h
        · exact hCW k (hC k h)
      have hkS9 : Kept S W4 W9 := ⟨hk9.os.trans hkS8.os, hk9.tape.trans hkS8.tape, hk9.output.trans hkS8.output, Nat.le_trans hkS8.size hk9.size, fun k hlt hn => (hk9.block k (Nat.lt_of_lt_of_le hlt hkS8.size) (fun h => by
        rcases hC k h with rfl | rfl | rfl | h
        · exact hn s0
        · exact hn s1
        · exact hn s2
        · rcases hVs' k h with h2 | h2
          · exact hn ((hS k).2 (.inr (.inr (.inr h2))))
          · omega)).trans (hkS8.block k hlt hn)⟩
      have hV9S : ∀ k, V9.ownBlock = some k → S k ∨ W4.heap.size ≤ k := fun k hk => by
        rcases gb k rfl hk with h | h
        · exact .inr (Nat.le_trans hkS8.size h)
        · rcases hC k h with rfl | rfl | rfl | h
          · exact .inl s0
          · exact .inl s1
          · exact .inl s2
          · rcases hVs' k h with h2 | h2
            · exact .inl ((hS k).2 (.inr (.inr (.inr h2))))
            · exact .inr h2
      refine out_block_ret ?_
      refine ⟨fun k => S k ∨ V9.ownBlock = some k, fun k hk => ?_, hkS9, rfl, V9, g0, by rw [← hres]; exact g1, by rw [← hres]; exact hG9, hV9, fun k hk => ?_, fun k hk => ?_, below_on hbl8 hk9 fun k h => hCW k (hC k h)⟩
      · rcases hk with h | h
        · exact .inl h
        · exact hV9S k h
      · rcases hk with rfl | rfl | h
        · exact .inl s0
        · exact .inl s1
        · exact .inr h
      · rcases hk with h | h
        · have := hSlt k h
          have := hb3.size
          have := hkS9.size
          omega
        · exact (World.ownsRow.lt hG9 k h).2
    · -- it goes on
      have hze : z.2.2 = 0 := by simpa using hb
      rw [if_pos hze] at hf
      refine wpIn_skip ?_
      refine out_block_normal ?_
      refine ⟨fun k => k = b0 ∨ k = b1 ∨ k = b2 ∨ V'.ownBlock = some k, fun k hk => ?_, hkS8, z.1, z.2.1, rest, V', by rw [hxs]; simp, hf, d0, d1, d2, hG8, hV'ne, hVB', fun k => Iff.rfl, hbl8⟩
      rcases hk with rfl | rfl | rfl | h
      · exact .inl s0
      · exact .inl s1
      · exact .inl s2
      · rcases hVs' k h with h | h
        · exact .inl ((hS k).2 (.inr (.inr (.inr h))))
        · exact .inr h
  · -- all points are passed
    intro D S W5 hD hDl hSD hI hg _ _ hDd
    obtain ⟨c, ws, rest, V, hx, hf, k0, k1, k2, hG, hVne, hVB, hS, hbl⟩ := hI
    have hr : rest = [] := by
      have := congrArg List.length hx
      simp at this
      exact this
    subst hr
    simp only [followM, Option.some.injEq] at hf
    refine out_block_normal ?_
    refine out_then_normal ?_
    have hDn : D ≠ b0 ∧ D ≠ b1 ∧ D ≠ b2 ∧ V.ownBlock ≠ some D := ⟨fun e => hSD ((hS D).2 (.inl e)), fun e => hSD ((hS D).2 (.inr (.inl e))), fun e => hSD ((hS D).2 (.inr (.inr (.inl e)))), fun e => hSD ((hS D).2 (.inr (.inr (.inr e))))⟩
    have row25 : ∀ k, V.ownBlock = some k → ∃ cur, Blk W5 k 25 cur := fun k hk => by
      rcases hG.2 with ⟨h1, _⟩ | ⟨g, cp, cur, h1, _, hg, _⟩
      · rw [h1] at hk; simp [Value.ownBlock] at hk
      · rw [h1] at hk
        simp only [Value.ownBlock, Option.some.injEq] at hk
        subst hk
        exact ⟨cur, hg⟩
    have nV : ∀ {g t cs}, Blk W5 g t cs → t ≠ 25 → ∀ k, V.ownBlock = some k → k ≠ g := fun hb ht k hv e => by
      obtain ⟨cur, hc⟩ := row25 _ hv
      exact blk_ne hc hb (fun h => ht h.symm) e
    have SX := St.make2 [⟨1000, b0, 29, [.v (.slice none 0 0)]⟩, ⟨1001, b1, 30, [.v (.int .i64 0)]⟩, ⟨1002, b2, 91, wSV c ++ [SV.gr 0]⟩] 0 (wGQ ws) V (slots := [(4, .own 1000 0), (5, .own 1001 0), (6, .own 1002 0)]) (a := { a2 with defers := { target := .collected D, args := #[] } :: a2.defers }) (w := W5) (n := f35.ntmps) ⟨t4, t5, t6, trivial⟩ hz2 ⟨k0, k1, k2, trivial⟩ ⟨⟨blk_ne k0 k1 (by decide), blk_ne k0 k2 (by decide), trivial⟩, ⟨blk_ne k1 k2 (by decide), trivial⟩, trivial, trivial⟩ hG (fun k hk => ⟨nV k0 (by decide) k hk, nV k1 (by decide) k hk, fun (e : k = b2) => hVne (e ▸ hk), trivial⟩)
    refine sym_seq lay_ok mixed [] [4, 5] [1000, 1001] (⟨[(4, .own 1000 0), (5, .own 1001 0)], ⟨[(1000, .blk 29 [.gr 0]), (1001, .blk 30 [.v (.int .i64 0)])], [], [(0, wGQ ws)]⟩⟩) [] SX (by kernel_rfl) (by kernel_rfl) (by kernel_rfl) trivial fun E9 a9 W9 S9 => ?_
    refine wp_ret ?_
    have g0 := S9.mem.blk 1000 _ _ rfl
    have g1 := S9.mem.blk 1001 _ _ rfl
    have hG9 := S9.mem.gr 0 _ rfl
    have p0 : E9.ρ 1000 = b0 := S9.pin.1 1000 (by decide)
    have p1 : E9.ρ 1001 = b1 := S9.pin.1 1001 (by decide)
    have u4 := S9.slot 4 _ rfl
    have u5 := S9.slot 5 _ rfl
    have gb := S9.sep.ginj.2 0 (wGQ ws)
    have hk9 := S9.kept
    have hd9 : a9.defers = { target := .collected D, args := #[] } :: a2.defers := S9.defers
    have hz9 : a9.tmps.size = f35.ntmps := S9.size
    simp only [SV.vals, SV.val] at g0 g1 u4 u5
    rw [p0] at g0 u4
    rw [p1] at g1 u5
    generalize E9.gr 0 = V9 at *
    have hC : ∀ k, (inCB [⟨1000, b0, 29, [.v (.slice none 0 0)]⟩, ⟨1001, b1, 30, [.v (.int .i64 0)]⟩, ⟨1002, b2, 91, wSV c ++ [SV.gr 0]⟩] k ∨ V.ownBlock = some k) → k = b0 ∨ k = b1 ∨ k = b2 ∨ V.ownBlock = some k := fun k h => by
      rcases h with ⟨y, hy, rfl⟩ | h
      · simp only [List.mem_cons, List.not_mem_nil, or_false] at hy
        rcases hy with rfl | rfl | rfl
        · exact .inl rfl
        · exact .inr (.inl rfl)
        · exact .inr (.inr (.inl rfl))
      · exact .inr (.inr (.inr h))
    have hCW : ∀ k, (k = b0 ∨ k = b1 ∨ k = b2 ∨ V.ownBlock = some k) → W.heap.size ≤ k ∧ k ≠ D := fun k h => by
      rcases h with rfl | rfl | rfl | h
      · exact ⟨n0, hDn.1.symm⟩
      · exact ⟨n1, hDn.2.1.symm⟩
      · exact ⟨n2, hDn.2.2.1.symm⟩
      · exact ⟨hVB k h, fun e => hDn.2.2.2 (e ▸ h)⟩
    have hD9 : W9.heap[D]? = some (.deferred (some [])) := (hk9.block D hDl (fun h => (hCW D (hC D h)).2 rfl)).trans hDd
    rw [hd2] at hd9
    rw [← hf]
    refine fol_leave (D := D) hz9 u4 u5 g0 g1 hG9 (fun k hk => ?_) (below_on hbl hk9 fun k h => (hCW k (hC k h)).1) hD9 (Nat.le_trans hb2.size hD) ⟨hDn.1, hDn.2.1, fun e => ?_⟩ hd9
    · rcases gb k rfl hk with h | h
      · exact Nat.le_trans hbl.size h
      · exact (hCW k (hC k h)).1
    · rcases gb D rfl e with h | h
      · exact absurd h (Nat.not_le_of_lt hDl)
      · exact (hCW D (hC D h)).2 rfl
  · -- a point with an error
    intro D cd pre S W5 hD hDl hSD hp hI hg hDd
    obtain ⟨rfl, V, k0, k1, hG, hVB, hS, hlt, hbl⟩ := hI
    refine wpIn_ret ?_
    refine out_block_ret ?_
    refine out_then_ret ?_
    have hd : (({ a2 with defers := { target := .collected D, args := #[] } :: a2.defers } : Act)).defers = [{ target := .collected D, args := #[] }] := by simp [hd2]
    exact fol_leave (D := D) (a := { a2 with defers := { target := .collected D, args := #[] } :: a2.defers }) hz2 t4 t5 k0 k1 hG hVB hbl hDd (Nat.le_trans hb2.size hD) ⟨fun e => hSD (hS D (.inl e)), fun e => hSD (hS D (.inr (.inl e))), fun e => hSD (hS D (.inr (.inr e)))⟩ hd
end Go.Proofs.Ytlcccomdijdkaaa
