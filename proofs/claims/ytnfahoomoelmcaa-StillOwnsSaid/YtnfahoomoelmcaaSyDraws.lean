/- The iterator draws$1: it draws amount after amount, hands each on, and panics at one that cannot be drawn. -/
import Derived.Test.YtnfahoomoelmcaaSyS
namespace Go.Proofs.Ytnfahoomoelmcaa
open Go.RowKit Go.Proofs.Try

/-- what is drawn, amount after amount; what is in the pot behind; the error at which it ended -/
def hand (fuel : Nat) (c : MCurve) : MPot → List Int → Option (List MDrawn × MPot × Option Int)
  | p, [] => some ([], p, none)
  | p, d :: r => (drawOf fuel c p d).bind fun x => match x with
    | .error k => some ([], p, some k)
    | .ok y => (hand fuel c y.2 r).bind fun z => some (y.1 :: z.1, z.2)
abbrev dieOf (k : Int) : List PanicEntry := [{ v := .iface 32 (.int .i64 k), recovered := false }]
abbrev encD (d : MDrawn) : Array Value := #[.agg #[.int .i64 d.amount, .int .i64 d.alcohol.lo, .int .i64 d.alcohol.hi]]
abbrev dRds (l : List Int) (A : Option Addr) (cap b : Nat) : List (Nat × Q) := [(0, ⟨l.length, 1, fun i => [.int .i64 (l.getD i default)]⟩), (1, ⟨1, 1, fun _ => [.slice A l.length cap]⟩), (2, ⟨1, 1, fun _ => [.pointer (some ⟨b, 0, none⟩)]⟩)]
abbrev dEnv (l : List Int) (A : Option Addr) (cap x y : Nat) : Env := envOf [(0, ⟨A, l.length, cap, 1⟩), (1, ⟨some ⟨x, 0, none⟩, 1, 1, 1⟩), (2, ⟨some ⟨y, 0, none⟩, 1, 1, 1⟩)]
theorem St.put {X : Ctx} {st : SState} {E : Env} {a : Act} {w : World} (S : St X st E a w) {d : Nat} (hd : Nat.blt d X.n = true) (sv : SV) : St X ⟨(d, sv) :: st.slots, st.m⟩ E (a.put (some d) (sv.val E)) w := by
  unfold St
  simp only [look_upd]
  exact StF.put S (Nat.lt_of_succ_le (Nat.le_of_ble_eq_true hd)) sv
theorem body_normal {P : Program} {fn : Func} {R : Ending → World → Prop} {a : Act} {w : World} (h : bodyPost P fn R .ret a w) : bodyPost P fn R .normal a w := h
/-- seen from now on: nothing is its own -/
theorem St.seed {X : Ctx} {st : SState} {E : Env} {a : Act} {w : World} (S : St X st E a w) (hb : st.m.blks = []) (hg : st.m.grs = []) (C : Nat → Prop) : St ⟨w, C, X.n, X.D, allR, E.ρ, E.sl, E.x⟩ st E a w :=
  S.rebase C fun k hk => by
    rcases hk with ⟨g, t, cs, hx, _⟩ | ⟨j, q, hq, _⟩
    · rw [hb] at hx; simp [look] at hx
    · rw [hg] at hq; simp [look] at hq
theorem dMoved {X : Ctx} {st : SState} {E : Env} {a : Act} {w w' : World} {l : List Int} {A : Option Addr} {cap x y b : Nat} {DD C : Nat → Prop} (S : St X st E a w) (hb : st.m.blks = []) (hg : st.m.grs = []) (hr : st.m.rds = dRds l A cap b) (hs : ∀ s, s < 1000 → E.sl s = (dEnv l A cap x y).sl s)
    (r0 : InR DD A l.length) (hx : DD x) (hy : DD y) (hC : ∀ k, C k → ¬ DD k) (hk : Kept C w w') : St ⟨w', noC, X.n, X.D, allR, E.ρ, E.sl, E.x⟩ st E a w' := by
  refine St.seed (St.moved (S.seed hb hg C) hk (fun s q bb off hq hl hA => ?_) (fun g Φ hx => by rw [hb] at hx; simp [look] at hx) (fun k _ hc => ⟨fun ho => ?_, .inr hc⟩)) hb hg noC
  · rw [hr] at hq
    intro hc
    rcases look_cases hq with ⟨rfl, rfl⟩ | ⟨_, h2⟩
    · rw [hs 0 (by decide)] at hA
      exact hC _ hc (r0 bb off hl hA)
    · rcases look_cases h2 with ⟨rfl, rfl⟩ | ⟨_, h3⟩
      · rw [hs 1 (by decide)] at hA
        have hA' : some (⟨x, 0, none⟩ : Addr) = some ⟨bb, off, none⟩ := hA
        have e : x = bb := by injection hA' with h1; injection h1
        exact hC _ hc (e ▸ hx)
      · rcases look_cases h3 with ⟨rfl, rfl⟩ | ⟨_, h4⟩
        · rw [hs 2 (by decide)] at hA
          have hA' : some (⟨y, 0, none⟩ : Addr) = some ⟨bb, off, none⟩ := hA
          have e : y = bb := by injection hA' with h1; injection h1
          exact hC _ hc (e ▸ hy)
        · simp [look] at h4
  · rcases ho with ⟨g, t, cs, hx, _⟩ | ⟨j, q, hq, _⟩
    · rw [hb] at hx; simp [look] at hx
    · rw [hg] at hq; simp [look] at hq
abbrev dH (ln : Nat) (l : List Int) (A : Option Addr) (cap b i : Nat) : SState := ⟨[(0, .v (.func (.yield ln) #[] #[])), (1, .at 1 0 0), (2, .at 2 0 0), (6, .sl 0), (7, .v (.int .i64 l.length)), (8, .v (.int .i64 i))], ⟨[], dRds l A cap b, []⟩⟩

structure DInv (ln : Nat) (l : List Int) (A : Option Addr) (cap b x y fuel : Nat) (c : MCurve) (v : Nat → Value) (xs : List MDrawn) (q : MPot) (er : Option Int) (W : World) (S1 DD : Nat → Prop) (J : List MDrawn → (Nat → Prop) → World → Prop) (m i : Nat) (E : Env) (a : Act) (wr : World) : Prop where
  st : St ⟨wr, noC, f75.ntmps, [], allR, E.ρ, E.sl, E.x⟩ (dH ln l A cap b i) E a wr
  sl : ∀ s, s < 1000 → E.sl s = (dEnv l A cap x y).sl s
  le : i ≤ l.length
  lt : l.length < i + m
  ex : ∃ S' pre pi rest, hand fuel c pi (l.drop i) = some (rest, q, er) ∧ xs = pre ++ rest ∧ J pre S' wr ∧ Grows S1 W S' ∧ Blk wr b 92 (runCells pi v)
  sz : W.heap.size ≤ wr.heap.size
  held : HeldIn DD wr (Lines c v)

set_option maxRecDepth 100000 in
set_option maxHeartbeats 4000000 in
theorem drawsSeq (fuel : Nat) (c : MCurve) (p : MPot) (l : List Int) (v : Nat → Value) (b : Nat) (A : Option Addr) (cap : Nat) (xs : List MDrawn) (q : MPot) (er : Option Int) (w : World) (S0 : Nat → Prop) (x y : Nat) (hv : ∀ i, (v i).oneCell' = true)
    (hh : hand fuel c p l = some (xs, q, er)) (hl64 : (l.length : Int) ≤ 4611686018427387904) (h0 : l.length ≤ cap) (s0 : SlAt w A l.length 1 fun i => [.int .i64 (l.getD i default)]) (r0 : InR (fun k => ¬ S0 k ∧ k ≠ b) A l.length)
    (bx : Blk w x 22 #[.slice A l.length cap]) (nx : ¬ S0 x ∧ x ≠ b) (bY : Blk w y 106 #[.pointer (some ⟨b, 0, none⟩)]) (ny : ¬ S0 y ∧ y ≠ b) (hL : HeldIn (fun k => ¬ S0 k ∧ k ≠ b) w (Lines c v)) (hB : Blk w b 92 (runCells p v)) (hb0 : ¬ S0 b) :
    SeqT (FW none) prog 75 #[.pointer (some ⟨x, 0, none⟩), .pointer (some ⟨y, 0, none⟩)] encD xs (er.map dieOf) (fun k => k = b) (fun k => k < w.heap.size ∧ ¬ S0 k ∧ k ≠ b) (fun W => Blk W b 92 (runCells q v)) w := by
  intro n ln J Jx W S1 hW hS hJ hJx hY hJ0
  refine (callsIn_wide (n := n)).2 ?_
  obtain ⟨DD, hDD⟩ : ∃ DD : Nat → Prop, DD = fun k => k < w.heap.size ∧ ¬ S0 k ∧ k ≠ b := ⟨_, rfl⟩
  have inD : ∀ k, k < w.heap.size → (¬ S0 k ∧ k ≠ b) → DD k := fun k h1 h2 => by rw [hDD]; exact ⟨h1, h2⟩
  have hbW : Blk W b 92 (runCells p v) := (hW.block b hB.lt).trans hB
  have sW := s0.later hW
  have xW : Blk W x 22 #[.slice A l.length cap] := (hW.block x bx.lt).trans bx
  have yW : Blk W y 106 #[.pointer (some ⟨b, 0, none⟩)] := (hW.block y bY.lt).trans bY
  have LW : HeldIn DD W (Lines c v) := (hL.mono (R' := DD) fun k h1 h2 => inD k h1 h2).later hW
  have rW : InR DD A l.length := fun bb off hl hA => by
    obtain ⟨b', off', hA', hlt, _⟩ := s0 hl
    have hA2 := hA
    rw [hA'] at hA2
    have e : b' = bb := by simpa using congrArg (fun o => (o.map Addr.block).getD 0) hA2
    exact inD bb (by omega) (r0 bb off hl hA)
  have dx : DD x := inD x bx.lt nx
  have dy : DD y := inD y bY.lt ny
  have hbs : b < w.heap.size := hB.lt
  have hzW : w.heap.size ≤ W.heap.size := hW.size
  have hS1D : ∀ k, S1 k → ¬ DD k ∧ k ≠ b := fun k hk => by
    rw [hDD]; exact ⟨(hS k hk).1, (hS k hk).2⟩
  have hDs : ∀ k, DD k → k < w.heap.size ∧ k ≠ b := fun k hk => by rw [hDD] at hk; exact ⟨hk.1, hk.2.2⟩
  clear hL hB s0 bx bY r0 hW hS inD hDD
  have e1 : SlAt W (some ⟨x, 0, none⟩) 1 1 fun _ => [.slice A l.length cap] := SlAt.of_blk (vs := [.slice A l.length cap]) xW fun i hi j u hu => by
    have : i = 0 := by omega
    subst this
    simpa using hu
  have e2 : SlAt W (some ⟨y, 0, none⟩) 1 1 fun _ => [.pointer (some ⟨b, 0, none⟩)] := SlAt.of_blk (vs := [.pointer (some ⟨b, 0, none⟩)]) yW fun i hi j u hu => by
    have : i = 0 := by omega
    subst this
    simpa using hu
  refine sym_enter_at (f := 75) (fn := f75) (c := f75.body.get rfl) func75 rfl [.v (.func (.yield ln) #[] #[]), .at 1 0 0, .at 2 0 0] (dRds l A cap b) [] (dEnv l A cap x y) noC allR noρ (fun _ _ => rfl) (by kernel_rfl) (envOf_one trivial) (fun g t cs hx => by simp [look] at hx) (fun g g' t t' cs cs' hx => by simp [look] at hx) (fun g Φ hx => by simp [look] at hx)
    ⟨sW.rd h0, e1.rd (Nat.le_refl _), e2.rd (Nat.le_refl _), trivial⟩ (fun s q b off hq hl hA => ⟨trivial, fun g t cs hx => by simp [look] at hx⟩) fun a S => ?_
  -- up to the loop
  refine sym_seq lay_ok mixed [] [0, 1, 2, 6, 7, 8] [] (⟨[(0, .v (.func (.yield ln) #[] #[])), (1, .at 1 0 0), (2, .at 2 0 0), (6, .v (.slice A l.length cap)), (7, .v (.int .i64 l.length)), (8, .v (.int .i64 0))], ⟨[], dRds l A cap b, []⟩⟩) [.idx 0 1] S (by kernel_rfl) (by kernel_rfl) (by kernel_rfl) ⟨⟨by decide, by decide⟩, trivial⟩ fun E a w0 S => ?_
  have hk0 : Kept noC W w0 := S.kept
  have I0 : DInv ln l A cap b x y fuel c v xs q er W S1 DD J (l.length + 1) 0 E a w0 := by
    have hs : E.sl 0 = ⟨A, l.length, cap, 1⟩ := S.pin.2.1 0 (by decide)
    have S2 := ((S.reslot (t := 6) (sv' := .sl 0) rfl (by simp only [SV.val, hs])).pick [0, 1, 2, 6, 7, 8] [] (dH ln l A cap b 0) rfl).seed rfl rfl noC
    exact ⟨S2, S.pin.2.1, Nat.zero_le _, by omega, ⟨S1, [], p, xs, hh, rfl, hJ.1 _ _ _ _ hJ0 (hk0.mono fun k _ h => h.elim), fun k h => .inl h, (hk0.block b (by omega) (fun h => h)).trans hbW⟩, hk0.size, LW.move hk0.size fun k hk _ => hk0.block k hk (fun h => h)⟩
  clear S hk0 hJ0 hbW LW hh e1 e2 sW xW yW
  refine wp_block ?_
  refine wp_loop_rounds (l.length + 1) ?_
  generalize l.length + 1 = M at I0 ⊢
  have I1 : ∃ i, DInv ln l A cap b x y fuel c v xs q er W S1 DD J M i E a w0 := ⟨0, I0⟩
  clear I0
  obtain ⟨i, I0⟩ := I1
  induction M generalizing i E a w0 with
  | zero => have := I0.le; have := I0.lt; omega
  | succ M ih =>
  rw [rounds_succ]
  obtain ⟨S, hsl, hle, hlt, ⟨S', pre, pi, rest, hhand, hxs, hj, hg, hB⟩, hsz, hL⟩ := I0
  refine sym_seq lay_ok mixed [] [0, 1, 2, 6, 7, 8, 9] [] (⟨[(0, .v (.func (.yield ln) #[] #[])), (1, .at 1 0 0), (2, .at 2 0 0), (6, .sl 0), (7, .v (.int .i64 l.length)), (8, .v (.int .i64 i)), (9, .v (.bool (decide ((i : Int) < l.length))))], ⟨[], dRds l A cap b, []⟩⟩) [] S (by kernel_rfl) (by kernel_rfl) (by kernel_rfl) trivial fun E1 a1 w1 SA => ?_
  have hk1 : Kept noC w0 w1 := SA.kept
  have hj1 : J pre S' w1 := hJ.1 _ _ _ _ hj (hk1.mono fun k _ h => h.elim)
  have hbs0 : b < w0.heap.size := by omega
  have hB1 : Blk w1 b 92 (runCells pi v) := (hk1.block b hbs0 (fun h => h)).trans hB
  have hL1 : HeldIn DD w1 (Lines c v) := hL.move hk1.size fun k hk _ => hk1.block k hk (fun h => h)
  have hsl1 : ∀ s, s < 1000 → E1.sl s = (dEnv l A cap x y).sl s := fun s hs => (SA.pin.2.1 s hs).trans (hsl s hs)
  have hsz1 : W.heap.size ≤ w1.heap.size := Nat.le_trans hsz hk1.size
  have hg1 : Grows S1 W S' := hg
  have SB : St ⟨w1, noC, f75.ntmps, [], allR, E1.ρ, E1.sl, E1.x⟩ _ E1 a1 w1 := SA.seed rfl rfl noC
  clear SA S hj hB hL hsl hk1
  refine sym_if (b := decide ((i : Int) < l.length)) SB rfl (fun hb => ?_) (fun hb => ?_)
  case refine_2 =>
    -- all is drawn
    have hi : i = l.length := by have := of_decide_eq_false hb; omega
    rw [hi, List.drop_length] at hhand
    simp only [hand, Option.some.injEq, Prod.mk.injEq] at hhand
    obtain ⟨rfl, rfl, rfl⟩ := hhand
    refine wp_exit ?_
    refine out_then_exit ?_
    refine out_then_exit ?_
    refine out_block_here ?_
    refine body_normal ?_
    refine sym_ret lay_ok [] (by kernel_rfl) rfl SB ⟨S', hg1, hsz1, .inl ⟨by rw [hxs, List.append_nil]; exact hj1, ⟨_, rfl⟩, hB1⟩⟩
  case refine_1 =>
    have hi : i < l.length := by have := of_decide_eq_true hb; omega
    have hdrop : l.drop i = l.getD i default :: l.drop (i + 1) := by
      rw [List.drop_eq_getElem_cons hi]
      simp [List.getD, hi]
    rw [hdrop] at hhand
    simp only [hand] at hhand
    obtain ⟨res, hres, hhand⟩ := bind_some hhand
    refine wp_skip ?_
    refine out_then_normal ?_
    refine wp_seq ?_
    refine wp_block ?_
    refine sym_seq lay_ok mixed [] [0, 1, 2, 5, 6, 7, 8] [] (⟨[(0, .v (.func (.yield ln) #[] #[])), (1, .at 1 0 0), (2, .at 2 0 0), (5, .v (.int .i64 (l.getD (Int.toNat i) default))), (6, .sl 0), (7, .v (.int .i64 l.length)), (8, .v (.int .i64 i))], ⟨[], dRds l A cap b, []⟩⟩) [.idx i l.length, .idx i l.length] SB (by kernel_rfl) (by kernel_rfl) (by kernel_rfl) ⟨⟨by omega, by omega⟩, ⟨by omega, by omega⟩, trivial⟩ fun E2 a2 w2 SA => ?_
    have hk1 : Kept noC w1 w2 := SA.kept
    replace hj1 : J pre S' w2 := hJ.1 _ _ _ _ hj1 (hk1.mono fun k _ h => h.elim)
    replace hB1 : Blk w2 b 92 (runCells pi v) := (hk1.block b (by omega) (fun h => h)).trans hB1
    replace hL1 : HeldIn DD w2 (Lines c v) := hL1.move hk1.size fun k hk _ => hk1.block k hk (fun h => h)
    replace hsl1 : ∀ s, s < 1000 → E2.sl s = (dEnv l A cap x y).sl s := fun s hs => (SA.pin.2.1 s hs).trans (hsl1 s hs)
    replace hsz1 : W.heap.size ≤ w2.heap.size := Nat.le_trans hsz1 hk1.size
    replace SA : St ⟨w2, noC, f75.ntmps, [], allR, E2.ρ, E2.sl, E2.x⟩ _ E2 a2 w2 := SA.seed rfl rfl noC
    clear SB hk1
    rw [show Int.toNat (i : Int) = i from rfl] at SA
    generalize l.getD i default = d at hres SA
    -- the draw, and its handing on
    refine wp_seq ((wpIn_wide (n := 0)).1 (sym_openI (ro := none) ?_))
    refine sym_runI (n := 0) (ro := none) lay_ok [] 0 3 (⟨[(14, .v (.int .i64 d)), (13, .v (.pointer (some ⟨b, 0, none⟩))), (12, .v (.func (.yield ln) #[] #[])), (0, .v (.func (.yield ln) #[] #[])), (1, .at 1 0 0), (2, .at 2 0 0), (5, .v (.int .i64 d)), (6, .sl 0), (7, .v (.int .i64 l.length)), (8, .v (.int .i64 i))], ⟨[], dRds l A cap b, []⟩⟩) [.idx 0 1] SA (by kernel_rfl) (by kernel_rfl) (by kernel_rfl) ⟨⟨by decide, by decide⟩, trivial⟩ fun E3 a3 w3 SB => ?_
    have hk1 : Kept noC w2 w3 := SB.kept
    replace hj1 : J pre S' w3 := hJ.1 _ _ _ _ hj1 (hk1.mono fun k _ h => h.elim)
    replace hB1 : Blk w3 b 92 (runCells pi v) := (hk1.block b (by omega) (fun h => h)).trans hB1
    replace hL1 : HeldIn DD w3 (Lines c v) := hL1.move hk1.size fun k hk _ => hk1.block k hk (fun h => h)
    replace hsl1 : ∀ s, s < 1000 → E3.sl s = (dEnv l A cap x y).sl s := fun s hs => (SB.pin.2.1 s hs).trans (hsl1 s hs)
    replace hsz1 : W.heap.size ≤ w3.heap.size := Nat.le_trans hsz1 hk1.size
    replace SB : St ⟨w3, noC, f75.ntmps, [], allR, E3.ρ, E3.sl, E3.x⟩ _ E3 a3 w3 := SB.seed rfl rfl noC
    clear SA hk1
    have hbS : ∀ k, S' k → k ≠ b := fun k hk e => by
      rcases hg1 k hk with h | h
      · exact (hS1D k h).2 e
      · omega
    have hSD : ∀ k, S' k → ¬ DD k := fun k hk h => by
      rcases hg1 k hk with h1 | h1
      · exact (hS1D k h1).1 h
      · have := (hDs k h).1; omega
    refine sym_callI (f := 76) (vs := #[.pointer (some ⟨b, 0, none⟩), .int .i64 d]) rfl rfl rfl (by simp [Act.eval, SB.slot 13 _ rfl, SB.slot 14 _ rfl, SV.val]) enters_76 (drawOf_ok fuel c pi d w3 b v hv (hL1.mono fun k _ h => ⟨(hDs k h).2, trivial⟩) hB1 res hres) ?_
    rintro e w4 ⟨hk4, h4⟩
    have hj4 : J pre S' w4 := hJ.1 _ _ _ _ hj1 (hk4.mono fun k _ h => ⟨fun hs => hbS k hs h, .inr h⟩)
    cases res with
    | error k =>
      right
      simp only [Option.some.injEq, Prod.mk.injEq] at hhand
      obtain ⟨rfl, rfl, rfl⟩ := hhand
      obtain ⟨rfl, _⟩ := h4
      refine ⟨_, rfl, ?_⟩
      refine out_then_panic ?_
      refine out_block_panic ?_
      refine out_then_panic ?_
      refine out_then_panic ?_
      refine out_block_panic ?_
      exact ⟨SB.defers, S', hg1, Nat.le_trans hsz1 hk4.size, .inl ⟨by rw [hxs, List.append_nil]; exact hj4, rfl⟩⟩
    | ok r =>
      left
      obtain ⟨z, hz, hzz⟩ := bind_some hhand
      simp only [Option.some.injEq, Prod.mk.injEq] at hzz
      obtain ⟨rfl, hzz⟩ := hzz
      obtain ⟨rfl, hB4⟩ := h4
      refine ⟨_, rfl, ?_⟩
      have S4 : St ⟨w4, noC, f75.ntmps, [], allR, E3.ρ, E3.sl, E3.x⟩ _ E3 a3 w4 := dMoved SB rfl rfl rfl hsl1 rW dx dy (C := fun k => k = b) (fun k hk h => (hDs k h).2 hk) hk4
      have hL4 : HeldIn DD w4 (Lines c v) := hL1.move hk4.size fun k _ h => hk4.block k (by assumption) (fun e => (hDs k h).2 e)
      have S5 : St ⟨w4, noC, f75.ntmps, [], allR, E3.ρ, E3.sl, E3.x⟩ _ E3 (a3.put (some 15) (.agg #[.int .i64 r.1.amount, .int .i64 r.1.alcohol.lo, .int .i64 r.1.alcohol.hi])) w4 := S4.put (d := 15) (by kernel_rfl) (.agg [.v (.int .i64 r.1.amount), .v (.int .i64 r.1.alcohol.lo), .v (.int .i64 r.1.alcohol.hi)])
      have t12 := S5.slot 12 _ rfl
      have t15 := S5.slot 15 _ rfl
      clear S4
      generalize hu : a3.put (some 15) (.agg #[.int .i64 r.1.amount, .int .i64 r.1.alcohol.lo, .int .i64 r.1.alcohol.hi]) = a4 at *
      -- it is handed on
      refine sym_yield (x := .tmp 12) (y := .tmp 15) (u := .agg #[.int .i64 r.1.amount, .int .i64 r.1.alcohol.lo, .int .i64 r.1.alcohol.hi]) rfl rfl (by simp [Act.eval, t12, SV.val]) (by simp [Act.eval, t15, SV.val, SV.vals]) (hY pre r.1 z.1 w4 S' hxs hj4 hg1 (Nat.le_trans hsz1 hk4.size) _) ?_
      clear t12 t15 hu
      rintro e w5 ⟨S'', hg5, hk5, he5⟩
      have hgg : Grows S1 W S'' := fun k hk => by
        rcases hg5 k hk with h | h
        · exact hg1 k h
        · right; exact Nat.le_trans (Nat.le_trans hsz1 hk4.size) h
      have hB5 : Blk w5 b 92 (runCells r.2 v) := (hk5.block b hB4.lt (fun h => hbS b h rfl)).trans hB4
      have hL5 : HeldIn DD w5 (Lines c v) := hL4.move hk5.size fun k hk h => hk5.block k hk (fun hs => hSD k hs h)
      have hsz5 : W.heap.size ≤ w5.heap.size := Nat.le_trans (Nat.le_trans hsz1 hk4.size) hk5.size
      have S6 : St ⟨w5, noC, f75.ntmps, [], allR, E3.ρ, E3.sl, E3.x⟩ _ E3 a4 w5 := dMoved S5 rfl rfl rfl hsl1 rW dx dy hSD hk5
      obtain ⟨t, rfl, hjt⟩ : ∃ t, e = .returned (.bool t) ∧ (if t = true then J (pre ++ [r.1]) S'' w5 else Jx (pre ++ [r.1]) S'' w5) := by
        rcases he5 with ⟨rfl, h⟩ | ⟨rfl, h⟩
        · exact ⟨true, rfl, by simpa using h⟩
        · exact ⟨false, rfl, by simpa using h⟩
      clear he5 S5 hj4 hB4 hL4
      refine ⟨_, rfl, ?_⟩
      have S7 : St ⟨w5, noC, f75.ntmps, [], allR, E3.ρ, E3.sl, E3.x⟩ _ E3 (a4.put (some 16) (.bool t)) w5 := S6.put (d := 16) (by kernel_rfl) (.v (.bool t))
      generalize a4.put (some 16) (.bool t) = a5 at S7 ⊢
      clear S6
      refine sym_runI (n := 0) (ro := none) lay_ok [] 5 1 (⟨[(17, .v (.bool (!t))), (16, .v (.bool t)), (15, .agg [.v (.int .i64 r.1.amount), .v (.int .i64 r.1.alcohol.lo), .v (.int .i64 r.1.alcohol.hi)]), (14, .v (.int .i64 d)), (13, .v (.pointer (some ⟨b, 0, none⟩))), (12, .v (.func (.yield ln) #[] #[])), (0, .v (.func (.yield ln) #[] #[])), (1, .at 1 0 0), (2, .at 2 0 0), (5, .v (.int .i64 d)), (6, .sl 0), (7, .v (.int .i64 l.length)), (8, .v (.int .i64 i))], ⟨[], dRds l A cap b, []⟩⟩) [] S7 (by kernel_rfl) (by kernel_rfl) (by kernel_rfl) trivial fun E4 a6 w6 S8 => ?_
      refine sym_doneI rfl ?_
      refine out_then_normal ?_
      have hk6 : Kept noC w5 w6 := S8.kept
      have hB6 : Blk w6 b 92 (runCells r.2 v) := (hk6.block b hB5.lt (fun h => h)).trans hB5
      have hL6 : HeldIn DD w6 (Lines c v) := hL5.move hk6.size fun k hk _ => hk6.block k hk (fun h => h)
      have hsl6 : ∀ s, s < 1000 → E4.sl s = (dEnv l A cap x y).sl s := fun s hs => (S8.pin.2.1 s hs).trans (hsl1 s hs)
      have hsz6 : W.heap.size ≤ w6.heap.size := Nat.le_trans hsz5 hk6.size
      refine sym_if_last (b := !t) S8 rfl (fun hb => ?_) (fun hb => ?_)
      case refine_1 =>
        have ht : t = false := by simpa using hb
        subst ht
        simp only [Bool.false_eq_true, if_false] at hjt
        have hj6 : Jx (pre ++ [r.1]) S'' w6 := hJx.1 _ _ _ _ hjt (hk6.mono fun k _ h => h.elim)
        refine wp_ret ?_
        refine out_block_ret ?_
        refine out_then_ret ?_
        refine out_then_ret ?_
        refine out_block_ret ?_
        exact sym_ret lay_ok [] (by kernel_rfl) rfl S8 ⟨S'', hgg, hsz6, .inr ⟨⟨_, rfl⟩, pre ++ [r.1], ⟨z.1, by rw [hxs]; simp⟩, hj6⟩⟩
      case refine_2 =>
        have ht : t = true := by simpa using hb
        subst ht
        simp only [if_true] at hjt
        have hj6 : J (pre ++ [r.1]) S'' w6 := hJ.1 _ _ _ _ hjt (hk6.mono fun k _ h => h.elim)
        refine wp_skip ?_
        refine out_block_normal ?_
        refine out_then_normal ?_
        replace S8 : St ⟨w6, noC, f75.ntmps, [], allR, E4.ρ, E4.sl, E4.x⟩ _ E4 a6 w6 := S8.seed rfl rfl noC
        refine sym_last lay_ok mixed [] [0, 1, 2, 6, 7, 8] [] (dH ln l A cap b (i + 1)) [.rng .i64 (i + 1)] S8 (by kernel_rfl) (by kernel_rfl) (by kernel_rfl) ⟨rngI64 ⟨by omega, by omega⟩, trivial⟩ fun E5 a7 w7 S9 => ?_
        refine out_then_normal ?_
        have hk7 : Kept noC w6 w7 := S9.kept
        refine ih E5 a7 w7 _ ⟨S9.seed rfl rfl noC, fun s hs => (S9.pin.2.1 s hs).trans (hsl6 s hs), by omega, by omega, ⟨S'', pre ++ [r.1], r.2, z.1, hz.trans (by rw [← hzz]), by rw [hxs]; simp, hJ.1 _ _ _ _ hj6 (hk7.mono fun k _ h => h.elim), hgg, (hk7.block b hB6.lt (fun h => h)).trans hB6⟩, Nat.le_trans hsz6 hk7.size, hL6.move hk7.size fun k hk _ => hk7.block k hk (fun h => h)⟩
end Go.Proofs.Ytnfahoomoelmcaa
