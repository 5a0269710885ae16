/- The iterator of heated: point after point, and one more. -/
import Derived.Test.YtlcccomdijdkaaaSyFlow
namespace Go.Proofs.Ytlcccomdijdkaaa
open Go.RowKit Go.Proofs.Try

theorem wpListIn_unguard {P : Program} {ops r : List Oper} {o : Oper} {a : Act} {w : World} {ro : Option Nat} {n : Nat} {Po : Exit → Act → World → Prop} (hw : Region.wanted o (yielded ops.toArray a.tmps) = true) (h : wpListIn (FW ro) n P ops.toArray Po ({ o with guard := none } :: r) a w) : wpListIn (FW ro) n P ops.toArray Po (o :: r) a w := by
  unfold wpListIn at h ⊢
  rw [if_pos hw]
  have h1 : Region.wanted { o with guard := none } (yielded ops.toArray a.tmps) = true := by simp [Region.wanted]
  rw [if_pos h1] at h
  exact h
theorem sym_unguardI {P : Program} {X : Ctx} {E : Env} {st : SState} {ops l r : List Oper} {o : Oper} {a : Act} {w : World} {ro : Option Nat} {n : Nat} {Po : Exit → Act → World → Prop} (S : St X st E a w) (hL : l = o :: r) (hw : wantB ops st.slots o = some true) (h : wpListIn (FW ro) n P ops.toArray Po ({ o with guard := none } :: r) a w) : wpListIn (FW ro) n P ops.toArray Po l a w := by
  subst hL
  exact wpListIn_unguard (wanted_ok S hw) h
/-- the points, with one more -/
def insertP (l : List MPoint) (at' heat : Int) : List MPoint := l.take at'.toNat ++ addP heat :: l.drop at'.toNat
/-- what has been handed on ahead of point i -/
def handOn (l : List MPoint) (m : MPoint) (k i : Nat) : List MPoint := if i ≤ k then l.take i else l.take k ++ m :: (l.drop k).take (i - k)
theorem handOn_next {l : List MPoint} {m : MPoint} {k i : Nat} (hi : i < l.length) (h : i ≠ k) : handOn l m k (i + 1) = handOn l m k i ++ [l.getD i default] := by
  unfold handOn
  by_cases h1 : i < k
  · rw [if_pos (by omega), if_pos (by omega), take_more hi]
  · rw [if_neg (by omega), if_neg (by omega), List.append_assoc, List.cons_append]
    have hd : i - k < (l.drop k).length := by rw [List.length_drop]; omega
    rw [show i + 1 - k = (i - k) + 1 by omega, take_more hd]
    have e : (l.drop k).getD (i - k) default = l.getD i default := by
      simp only [List.getD_eq_getElem?_getD, List.getElem?_drop]
      rw [show k + (i - k) = i by omega]
    rw [e]
theorem handOn_at {l : List MPoint} {m : MPoint} {k : Nat} (hi : k < l.length) : handOn l m k (k + 1) = (l.take k ++ [m]) ++ [l.getD k default] := by
  unfold handOn
  rw [if_neg (by omega), show k + 1 - k = 0 + 1 by omega, drop_cons hi]
  simp
theorem handOn_pre (l : List MPoint) (m : MPoint) (k i : Nat) : ∃ rest, l.take k ++ m :: l.drop k = handOn l m k i ++ rest := by
  unfold handOn
  by_cases h : i ≤ k
  · rw [if_pos h]
    refine ⟨(l.take k).drop i ++ m :: l.drop k, ?_⟩
    have e : l.take i = (l.take k).take i := by rw [List.take_take]; congr 1; omega
    rw [e, ← List.append_assoc, List.take_append_drop]
  · rw [if_neg h]
    refine ⟨(l.drop k).drop (i - k), ?_⟩
    rw [List.append_assoc, List.cons_append, List.take_append_drop]
abbrev hRds (l : List MPoint) (A : Option Addr) (cap k : Nat) (heat : Int) : List (Nat × Q) := [(0, pQ l), (1, ⟨1, 1, fun _ => [.slice A l.length cap]⟩), (2, ⟨1, 1, fun _ => [.int .i64 k]⟩), (3, ⟨1, 9, fun _ => pCells (addP heat)⟩)]
abbrev hEnv (l : List MPoint) (A : Option Addr) (cap k x y z : Nat) : Env := envOf [(0, ⟨A, l.length, cap, 9⟩), (1, ⟨some ⟨x, 0, none⟩, 1, 1, 1⟩), (2, ⟨some ⟨y, 0, none⟩, 1, 1, 1⟩), (3, ⟨some ⟨z, 0, none⟩, 1, 1, 9⟩)]
theorem hMoved {X : Ctx} {st : SState} {E : Env} {a : Act} {w w' : World} {l : List MPoint} {A : Option Addr} {cap k x y z : Nat} {heat : Int} {DD C : Nat → Prop} (S : St X st E a w) (hb : st.m.blks = []) (hg : st.m.grs = []) (hr : st.m.rds = hRds l A cap k heat) (hs : ∀ s, s < 1000 → E.sl s = (hEnv l A cap k x y z).sl s)
    (r0 : InR DD A l.length) (hx : DD x) (hy : DD y) (hz : DD z) (hC : ∀ k, C k → ¬ DD k) (hk : Kept C w w') : St ⟨w', noC, X.n, X.D, allR, E.ρ, E.sl, E.x⟩ st E a w' := by
  have one : ∀ {u b off : Nat}, (some (⟨u, 0, none⟩ : Addr)) = some ⟨b, off, none⟩ → u = b := fun h => by injection h with h1; injection h1
  refine St.seed (St.moved (S.seed hb hg C) hk (fun s q bb off hq hl hA => ?_) (fun g Φ hx => by rw [hb] at hx; simp [look] at hx) (fun k _ hc => ⟨fun ho => ?_, .inr hc⟩)) hb hg noC
  · rw [hr] at hq
    intro hc
    rcases look_cases hq with ⟨rfl, rfl⟩ | ⟨_, h2⟩
    · rw [hs 0 (by decide)] at hA
      exact hC _ hc (r0 bb off hl hA)
    · rcases look_cases h2 with ⟨rfl, rfl⟩ | ⟨_, h3⟩
      · rw [hs 1 (by decide)] at hA
        exact hC _ hc (one hA ▸ hx)
      · rcases look_cases h3 with ⟨rfl, rfl⟩ | ⟨_, h4⟩
        · rw [hs 2 (by decide)] at hA
          exact hC _ hc (one hA ▸ hy)
        · rcases look_cases h4 with ⟨rfl, rfl⟩ | ⟨_, h5⟩
          · rw [hs 3 (by decide)] at hA
            exact hC _ hc (one hA ▸ hz)
          · simp [look] at h5
  · rcases ho with ⟨g, t, cs, hx, _⟩ | ⟨j, q, hq, _⟩
    · rw [hb] at hx; simp [look] at hx
    · rw [hg] at hq; simp [look] at hq
abbrev hH (ln : Nat) (l : List MPoint) (A : Option Addr) (cap k : Nat) (heat : Int) (i : Nat) : SState := ⟨[(0, .v (.func (.yield ln) #[] #[])), (1, .at 1 0 0), (2, .at 2 0 0), (3, .at 3 0 0), (7, .sl 0), (8, .v (.int .i64 l.length)), (9, .v (.int .i64 i))], ⟨[], hRds l A cap k heat, []⟩⟩
structure HInv (ln : Nat) (l : List MPoint) (A : Option Addr) (cap k x y z : Nat) (heat : Int) (W : World) (S1 : Nat → Prop) (J : List MPoint → (Nat → Prop) → World → Prop) (m i : Nat) (E : Env) (a : Act) (wr : World) : Prop where
  st : St ⟨wr, noC, f57.ntmps, [], allR, E.ρ, E.sl, E.x⟩ (hH ln l A cap k heat i) E a wr
  sl : ∀ s, s < 1000 → E.sl s = (hEnv l A cap k x y z).sl s
  le : i ≤ l.length
  lt : l.length < i + m
  ex : ∃ S', J (handOn l (addP heat) k i) S' wr ∧ Grows S1 W S'
  sz : W.heap.size ≤ wr.heap.size
theorem at_of {w : World} {x t : Nat} {vs : List Value} {n : Nat} (h : Blk w x t vs.toArray) : SlAt w (some ⟨x, 0, none⟩) 1 n fun _ => vs := SlAt.of_blk h fun i hi j u hu => by
  have : i = 0 := by omega
  subst this
  simpa using hu

set_option maxRecDepth 100000 in
set_option maxHeartbeats 4000000 in
theorem heatedSeq (l : List MPoint) (A : Option Addr) (cap k x y z : Nat) (heat : Int) (w : World) (hl64 : (l.length : Int) ≤ 4611686018427387904) (hkl : k ≤ l.length) (h0 : l.length ≤ cap) (s0 : SlAt w A l.length 9 fun i => pCells (l.getD i default)) (bx : Blk w x 26 #[.slice A l.length cap]) (bY : Blk w y 3 #[.int .i64 k]) (bz : Blk w z 47 (pCells (addP heat)).toArray) :
    SeqT (FW none) prog 57 #[.pointer (some ⟨x, 0, none⟩), .pointer (some ⟨y, 0, none⟩), .pointer (some ⟨z, 0, none⟩)] encP (insertP l k heat) none (fun _ => False) (fun k => k < w.heap.size) (fun _ => True) w := by
  intro n ln J Jx W S1 hW hS hJ hJx hY hJ0
  refine (callsIn_wide (n := n)).2 ?_
  obtain ⟨DD, hDD⟩ : ∃ DD : Nat → Prop, DD = fun k => k < w.heap.size := ⟨_, rfl⟩
  have sW := s0.later hW
  have xW : Blk W x 26 #[.slice A l.length cap] := (hW.block x bx.lt).trans bx
  have yW : Blk W y 3 #[.int .i64 k] := (hW.block y bY.lt).trans bY
  have zW : Blk W z 47 (pCells (addP heat)).toArray := (hW.block z bz.lt).trans bz
  have rW : InR DD A l.length := fun bb off hl hA => by
    obtain ⟨b', off', hA', hlt, _⟩ := s0 hl
    rw [hA'] at hA
    have e : b' = bb := by simpa using congrArg (fun o => (o.map Addr.block).getD 0) hA
    rw [hDD]
    show bb < w.heap.size
    omega
  have dx : DD x := by rw [hDD]; exact bx.lt
  have dy : DD y := by rw [hDD]; exact bY.lt
  have dz : DD z := by rw [hDD]; exact bz.lt
  have hzW : w.heap.size ≤ W.heap.size := hW.size
  have hS1D : ∀ k, S1 k → ¬ DD k := fun k hk => by rw [hDD]; exact (hS k hk).1
  have hDs : ∀ k, DD k → k < w.heap.size := fun k hk => by rw [hDD] at hk; exact hk
  clear s0 bx bY bz hW hS hDD
  have e1 := at_of (n := 1) xW
  have e2 := at_of (n := 1) yW
  have e3 := at_of (n := 9) zW
  refine sym_enter_at (f := 57) (fn := f57) (c := f57.body.get rfl) func57 rfl [.v (.func (.yield ln) #[] #[]), .at 1 0 0, .at 2 0 0, .at 3 0 0] (hRds l A cap k heat) [] (hEnv l A cap k x y z) noC allR noρ (fun _ _ => rfl) (by kernel_rfl) (envOf_one trivial) (fun g t cs hx => by simp [look] at hx) (fun g g' t t' cs cs' hx => by simp [look] at hx) (fun g Φ hx => by simp [look] at hx)
    ⟨sW.rd h0, e1.rd (Nat.le_refl _), e2.rd (Nat.le_refl _), e3.rd (Nat.le_refl _), trivial⟩ (fun s q b off hq hl hA => ⟨trivial, fun g t cs hx => by simp [look] at hx⟩) fun a S => ?_
  refine wp_seq ?_
  refine sym_seq lay_ok mixed [] [0, 1, 2, 3, 7, 8, 9] [] (⟨[(0, .v (.func (.yield ln) #[] #[])), (1, .at 1 0 0), (2, .at 2 0 0), (3, .at 3 0 0), (7, .v (.slice A l.length cap)), (8, .v (.int .i64 l.length)), (9, .v (.int .i64 0))], ⟨[], hRds l A cap k heat, []⟩⟩) [.idx 0 1] S (by kernel_rfl) (by kernel_rfl) (by kernel_rfl) ⟨⟨by decide, by decide⟩, trivial⟩ fun E a w0 S => ?_
  have hk0 : Kept noC W w0 := S.kept
  have I0 : HInv ln l A cap k x y z heat W S1 J (l.length + 1) 0 E a w0 := by
    have hs : E.sl 0 = ⟨A, l.length, cap, 9⟩ := S.pin.2.1 0 (by decide)
    have S2 := ((S.reslot (t := 7) (sv' := .sl 0) rfl (by simp only [SV.val, hs])).pick [0, 1, 2, 3, 7, 8, 9] [] (hH ln l A cap k heat 0) rfl).seed rfl rfl noC
    exact ⟨S2, S.pin.2.1, Nat.zero_le _, by omega, ⟨S1, by unfold handOn; rw [if_pos (Nat.zero_le _), List.take_zero]; exact hJ.1 _ _ _ _ hJ0 (hk0.mono fun k _ h => h.elim), fun k h => .inl h⟩, hk0.size⟩
  clear S hk0 hJ0 e1 e2 e3 sW xW yW zW
  refine wp_block ?_
  refine wp_loop_rounds (l.length + 1) ?_
  generalize l.length + 1 = M at I0 ⊢
  have I1 : ∃ i, HInv ln l A cap k x y z heat W S1 J M i E a w0 := ⟨0, I0⟩
  clear I0
  obtain ⟨i, I0⟩ := I1
  induction M generalizing i E a w0 with
  | zero => have := I0.le; have := I0.lt; omega
  | succ M ih =>
  rw [rounds_succ]
  obtain ⟨S, hsl, hle, hlt, ⟨S', hj, hg⟩, hsz⟩ := I0
  refine sym_seq lay_ok mixed [] [0, 1, 2, 3, 7, 8, 9, 10] [] (⟨[(0, .v (.func (.yield ln) #[] #[])), (1, .at 1 0 0), (2, .at 2 0 0), (3, .at 3 0 0), (7, .sl 0), (8, .v (.int .i64 l.length)), (9, .v (.int .i64 i)), (10, .v (.bool (decide ((i : Int) < l.length))))], ⟨[], hRds l A cap k heat, []⟩⟩) [] S (by kernel_rfl) (by kernel_rfl) (by kernel_rfl) trivial fun E1 a1 w1 SA => ?_
  have hk1 : Kept noC w0 w1 := SA.kept
  have hj1 : J (handOn l (addP heat) k i) S' w1 := hJ.1 _ _ _ _ hj (hk1.mono fun k _ h => h.elim)
  have hsl1 : ∀ s, s < 1000 → E1.sl s = (hEnv l A cap k x y z).sl s := fun s hs => (SA.pin.2.1 s hs).trans (hsl s hs)
  have hsz1 : W.heap.size ≤ w1.heap.size := Nat.le_trans hsz hk1.size
  have SB : St ⟨w1, noC, f57.ntmps, [], allR, E1.ρ, E1.sl, E1.x⟩ _ E1 a1 w1 := SA.seed rfl rfl noC
  clear SA S hj hsl hk1
  refine sym_if (b := decide ((i : Int) < l.length)) SB rfl (fun hb => ?_) (fun hb => ?_)
  case refine_2 =>
    have hi : i = l.length := by have := of_decide_eq_false hb; omega
    refine wp_exit ?_
    refine out_then_exit ?_
    refine out_then_exit ?_
    refine out_block_here ?_
    refine out_then_normal ?_
    refine sym_seq lay_ok mixed [] [0, 3, 33] [] (⟨[(0, .v (.func (.yield ln) #[] #[])), (3, .at 3 0 0), (33, .v (.bool ((k : Int) == l.length)))], ⟨[], hRds l A cap k heat, []⟩⟩) [.idx 0 1, .idx 0 1] SB (by kernel_rfl) (by kernel_rfl) (by kernel_rfl) ⟨⟨by decide, by decide⟩, ⟨by decide, by decide⟩, trivial⟩ fun E2 a2 w2 SC => ?_
    have hk2 : Kept noC w1 w2 := SC.kept
    have hj2 : J (handOn l (addP heat) k i) S' w2 := hJ.1 _ _ _ _ hj1 (hk2.mono fun k _ h => h.elim)
    have hsl2 : ∀ s, s < 1000 → E2.sl s = (hEnv l A cap k x y z).sl s := fun s hs => (SC.pin.2.1 s hs).trans (hsl1 s hs)
    have hsz2 : W.heap.size ≤ w2.heap.size := Nat.le_trans hsz1 hk2.size
    have SD : St ⟨w2, noC, f57.ntmps, [], allR, E2.ρ, E2.sl, E2.x⟩ _ E2 a2 w2 := SC.seed rfl rfl noC
    clear SB SC hj1 hk2
    refine sym_if_last (b := (k : Int) == l.length) SD rfl (fun hb2 => ?_) (fun hb2 => ?_)
    case refine_2 =>
      have hkn : k < l.length := by
        have : ¬ ((k : Int) = l.length) := by simpa using hb2
        omega
      refine wp_skip ?_
      refine body_normal ?_
      refine sym_ret lay_ok [] (by kernel_rfl) rfl SD ⟨S', hg, hsz2, .inl ⟨?_, ⟨_, rfl⟩, trivial⟩⟩
      have e : insertP l k heat = handOn l (addP heat) k i := by
        unfold insertP handOn
        rw [if_neg (by omega), hi, List.take_of_length_le (l := l.drop k) (by rw [List.length_drop]; exact Nat.le_refl _)]
        rfl
      rw [e]; exact hj2
    case refine_1 =>
      have hkn : k = l.length := by
        have : (k : Int) = l.length := by simpa using hb2
        omega
      have eh : handOn l (addP heat) k i = l := by
        unfold handOn
        rw [if_pos (by omega), hi, List.take_length]
      have ei : insertP l k heat = l ++ addP heat :: [] := by
        unfold insertP
        rw [show Int.toNat (k : Int) = k from rfl, hkn, List.take_length, List.drop_length]
      refine (wpIn_wide (n := 0)).1 (sym_openI (ro := none) ?_)
      refine sym_runIP (n := 0) (ro := none) lay_ok [] 0 2 [0, 34, 35] [] (⟨[(0, .v (.func (.yield ln) #[] #[])), (34, .v (.func (.yield ln) #[] #[])), (35, .agg (pSV (addP heat)))], ⟨[], hRds l A cap k heat, []⟩⟩) [.idx 0 1] SD (by kernel_rfl) (by kernel_rfl) (by kernel_rfl) ⟨⟨by decide, by decide⟩, trivial⟩ fun E3 a3 w3 SE => ?_
      have hk3 : Kept noC w2 w3 := SE.kept
      have hj3 : J l S' w3 := by rw [← eh]; exact hJ.1 _ _ _ _ hj2 (hk3.mono fun k _ h => h.elim)
      have hsz3 : W.heap.size ≤ w3.heap.size := Nat.le_trans hsz2 hk3.size
      have t34 := SE.slot 34 _ rfl
      have t35 := SE.slot 35 _ rfl
      have hz3 : a3.tmps.size = f57.ntmps := SE.size
      have hd3 : a3.defers = [] := SE.defers
      refine sym_yield (x := .tmp 34) (y := .tmp 35) (u := .agg (pCells (addP heat)).toArray) rfl rfl (by simp [Act.eval, t34, SV.val]) (by simp [Act.eval, t35, SV.val, SV.vals]) (hY l (addP heat) [] w3 S' ei hj3 hg hsz3 _) ?_
      clear t34 t35 SE SD
      rintro e w5 ⟨S'', hg5, hk5, he5⟩
      have hgg : Grows S1 W S'' := fun k hk => by
        rcases hg5 k hk with h | h
        · exact hg k h
        · right; omega
      have hsz5 : W.heap.size ≤ w5.heap.size := Nat.le_trans hsz3 hk5.size
      obtain ⟨t, rfl, hjt⟩ : ∃ t, e = .returned (.bool t) ∧ (if t = true then J (l ++ [addP heat]) S'' w5 else Jx (l ++ [addP heat]) S'' w5) := by
        rcases he5 with ⟨rfl, h⟩ | ⟨rfl, h⟩
        · exact ⟨true, rfl, by simpa only [if_true] using h⟩
        · exact ⟨false, rfl, by simpa only [Bool.false_eq_true, if_false] using h⟩
      refine ⟨_, rfl, ?_⟩
      refine sym_doneI rfl ?_
      refine body_normal ?_
      have SZ := St.make [] (slots := []) (a := a3.put (some 36) (.bool t)) (w := w5) (n := f57.ntmps) trivial (by simp [Act.put, hz3]) hd3 trivial trivial
      refine sym_ret lay_ok [] (by kernel_rfl) rfl SZ ⟨S'', hgg, hsz5, ?_⟩
      cases t with
      | true => exact .inl ⟨by rw [ei]; simpa only [if_true] using hjt, ⟨_, rfl⟩, trivial⟩
      | false => exact .inr ⟨⟨_, rfl⟩, l ++ [addP heat], by rw [ei]; exact List.prefix_refl _, by simpa only [Bool.false_eq_true, if_false] using hjt⟩
  case refine_1 =>
    have hi : i < l.length := by have := of_decide_eq_true hb; omega
    obtain ⟨rest', hrest⟩ := handOn_pre l (addP heat) k (i + 1)
    replace hrest : insertP l k heat = handOn l (addP heat) k (i + 1) ++ rest' := hrest
    refine wp_skip ?_
    refine out_then_normal ?_
    refine wp_seq ?_
    refine wp_block ?_
    refine sym_seq lay_ok mixed [(3, { g := 0 })] [0, 1, 2, 3, 5, 6, 7, 8, 9] [0] (⟨[(0, .v (.func (.yield ln) #[] #[])), (1, .at 1 0 0), (2, .at 2 0 0), (3, .at 3 0 0), (5, .v (.int .i64 i)), (6, .own 0 0), (7, .sl 0), (8, .v (.int .i64 l.length)), (9, .v (.int .i64 i))], ⟨[(0, .blk 47 (pSV (l.getD (Int.toNat i) default)))], hRds l A cap k heat, []⟩⟩) [.idx i l.length, .idx i l.length] SB (by kernel_rfl) (by kernel_rfl) (by kernel_rfl) ⟨⟨by omega, by omega⟩, ⟨by omega, by omega⟩, trivial⟩ fun E2 a2 w2 SA => ?_
    rw [show Int.toNat (i : Int) = i from rfl] at SA
    refine wp_seq ((wpIn_wide (n := 0)).1 (sym_openI (ro := none) ?_))
    refine sym_runIP (n := 0) (ro := none) lay_ok [] 0 4 [0, 1, 2, 3, 6, 7, 8, 9, 17] [0] (⟨[(0, .v (.func (.yield ln) #[] #[])), (1, .at 1 0 0), (2, .at 2 0 0), (3, .at 3 0 0), (6, .own 0 0), (7, .sl 0), (8, .v (.int .i64 l.length)), (9, .v (.int .i64 i)), (17, .v (.bool ((i : Int) == k)))], ⟨[(0, .blk 47 (pSV (l.getD i default)))], hRds l A cap k heat, []⟩⟩) [.idx 0 1] SA (by kernel_rfl) (by kernel_rfl) (by kernel_rfl) ⟨⟨by decide, by decide⟩, trivial⟩ fun E3 a3 w3 SC => ?_
    clear SA
    by_cases hik : i = k
    · -- one more is handed on first
      have S4 := (SC.reslot (t := 17) (sv' := .v (.bool true)) rfl (by simp [SV.val, hik])).pick [0, 1, 2, 3, 6, 7, 8, 9, 17] [0] (⟨[(0, .v (.func (.yield ln) #[] #[])), (1, .at 1 0 0), (2, .at 2 0 0), (3, .at 3 0 0), (6, .own 0 0), (7, .sl 0), (8, .v (.int .i64 l.length)), (9, .v (.int .i64 i)), (17, .v (.bool true))], ⟨[(0, .blk 47 (pSV (l.getD i default)))], hRds l A cap k heat, []⟩⟩) rfl
      clear SC
      refine sym_runIP (n := 0) (ro := none) lay_ok [] 4 2 [0, 1, 2, 3, 6, 7, 8, 9, 17, 18, 19] [0] (⟨[(0, .v (.func (.yield ln) #[] #[])), (1, .at 1 0 0), (2, .at 2 0 0), (3, .at 3 0 0), (6, .own 0 0), (7, .sl 0), (8, .v (.int .i64 l.length)), (9, .v (.int .i64 i)), (17, .v (.bool true)), (18, .v (.func (.yield ln) #[] #[])), (19, .agg (pSV (addP heat)))], ⟨[(0, .blk 47 (pSV (l.getD i default)))], hRds l A cap k heat, []⟩⟩) [.idx 0 1] S4 (by kernel_rfl) (by kernel_rfl) (by kernel_rfl) ⟨⟨by decide, by decide⟩, trivial⟩ fun E5 a5 w5 S5 => ?_
      clear S4
      have hk5 : Kept noC w1 w5 := S5.kept
      have hpk : handOn l (addP heat) k i = l.take k := by unfold handOn; rw [if_pos (by omega), hik]
      have hj5 : J (l.take k) S' w5 := by rw [← hpk]; exact hJ.1 _ _ _ _ hj1 (hk5.mono fun k _ h => h.elim)
      have hsl5 : ∀ s, s < 1000 → E5.sl s = (hEnv l A cap k x y z).sl s := fun s hs => (S5.pin.2.1 s hs).trans (hsl1 s hs)
      have hsz5 : W.heap.size ≤ w5.heap.size := Nat.le_trans hsz1 hk5.size
      have hbw : w1.heap.size ≤ E5.ρ 0 := (S5.sep.base 0 _ _ rfl).resolve_right (fun h => h)
      have hS'lt : ∀ j, S' j → j < w1.heap.size := hJ.2 _ _ _ hj1
      have hSD0 : ∀ j, S' j → ¬ DD j := fun j hj h => by
        rcases hg j hj with h1 | h1
        · exact hS1D j h1 h
        · have := hDs j h; omega
      have t18 := S5.slot 18 _ rfl
      have t19 := S5.slot 19 _ rfl
      have hbl := (S5.mem.blk 0 _ _ rfl).lt
      have hxs1 : insertP l k heat = l.take k ++ addP heat :: l.drop k := rfl
      have hown : ∀ j, SState.own ((⟨[(0, .v (.func (.yield ln) #[] #[])), (1, .at 1 0 0), (2, .at 2 0 0), (3, .at 3 0 0), (6, .own 0 0), (7, .sl 0), (8, .v (.int .i64 l.length)), (9, .v (.int .i64 i)), (17, .v (.bool true)), (18, .v (.func (.yield ln) #[] #[])), (19, .agg (pSV (addP heat)))], ⟨[(0, .blk 47 (pSV (l.getD i default)))], hRds l A cap k heat, []⟩⟩ : SState)) E5 j → j = E5.ρ 0 := fun j hj => by
        rcases hj with ⟨g, t, cs, hx, rfl⟩ | ⟨j', q, hx, _⟩
        · rcases look_cases hx with ⟨rfl, _⟩ | ⟨_, h2⟩
          · rfl
          · simp [look] at h2
        · simp [look] at hx
      refine sym_unguardI S5 rfl (by kernel_rfl) ?_
      refine sym_yield (x := .tmp 18) (y := .tmp 19) (u := .agg (pCells (addP heat)).toArray) rfl rfl (by simp [Act.eval, t18, SV.val]) (by simp [Act.eval, t19, SV.val, SV.vals]) (hY (l.take k) (addP heat) (l.drop k) w5 S' hxs1 hj5 hg hsz5 _) ?_
      clear t18 t19
      rintro e w6 ⟨S2, hg6, hk6, he6⟩
      have hg2 : Grows S1 W S2 := fun j hj => by
        rcases hg6 j hj with h | h
        · exact hg j h
        · right; omega
      have hsz6 : W.heap.size ≤ w6.heap.size := Nat.le_trans hsz5 hk6.size
      have S6 := S5.rebase (fun j => j = E5.ρ 0 ∨ S' j) (fun j hj => .inl (hown j hj))
      have S7 := S6.moved hk6 (fun s q b off hq hl hA => fun hs => ?_) (fun g Φ hx => by
        rcases look_cases hx with ⟨_, h⟩ | ⟨_, h2⟩
        · cases h
        · simp [look] at h2) (fun j hj hs => ⟨fun ho => by have := hown j ho; have := hS'lt j hs; omega, .inr (.inr hs)⟩)
      · have S8 := S7.rebase (fun j => j = E5.ρ 0) (fun j hj => hown j hj)
        clear S5 S6 S7
        have hmv : ∀ j, j = E5.ρ 0 → ¬ S2 j ∧ (W.heap.size ≤ j ∨ False) := fun j hj => by
          subst hj
          refine ⟨fun hs => ?_, .inl (Nat.le_trans hsz1 hbw)⟩
          rcases hg6 _ hs with h | h
          · have := hS'lt _ h; omega
          · omega
        obtain ⟨t, rfl, hjt⟩ : ∃ t, e = .returned (.bool t) ∧ (if t = true then J (l.take k ++ [addP heat]) S2 w6 else Jx (l.take k ++ [addP heat]) S2 w6) := by
          rcases he6 with ⟨rfl, h⟩ | ⟨rfl, h⟩
          · exact ⟨true, rfl, by simpa only [if_true] using h⟩
          · exact ⟨false, rfl, by simpa only [Bool.false_eq_true, if_false] using h⟩
        clear he6
        refine ⟨_, rfl, ?_⟩
        have S9 := S8.put (d := 20) (by kernel_rfl) (.v (.bool t))
        simp only [SV.val] at S9
        generalize a5.put (some 20) (.bool t) = a6 at S9 ⊢
        clear S8
        cases t with
        | false =>
          simp only [Bool.false_eq_true, if_false] at hjt
          refine sym_runIP (n := 0) (ro := none) lay_ok [] 7 8 [0, 28] [] (⟨[(0, .v (.func (.yield ln) #[] #[])), (28, .v (.bool true))], ⟨[], hRds l A cap k heat, []⟩⟩) [] S9 (by kernel_rfl) (by kernel_rfl) (by kernel_rfl) trivial fun E7 a7 w7 SX => ?_
          refine sym_doneI rfl ?_
          refine out_then_normal ?_
          have hk7 := SX.kept
          have hj7 : Jx (l.take k ++ [addP heat]) S2 w7 := hJx.1 _ _ _ _ hjt (hk7.mono fun j _ h => hmv j h)
          refine sym_if_last (b := true) SX rfl (fun _ => ?_) (fun hb => by cases hb)
          refine wp_ret ?_
          refine out_block_ret ?_
          refine out_then_ret ?_
          refine out_then_ret ?_
          refine out_block_ret ?_
          refine out_then_ret ?_
          exact sym_ret lay_ok [] (by kernel_rfl) rfl SX ⟨S2, hg2, Nat.le_trans hsz6 hk7.size, .inr ⟨⟨_, rfl⟩, l.take k ++ [addP heat], ⟨l.drop k, by rw [hxs1]; simp⟩, hj7⟩⟩
        | true =>
          simp only [if_true] at hjt
          refine sym_runIP (n := 0) (ro := none) lay_ok [] 7 3 [0, 1, 2, 3, 6, 7, 8, 9, 23] [0] (⟨[(0, .v (.func (.yield ln) #[] #[])), (1, .at 1 0 0), (2, .at 2 0 0), (3, .at 3 0 0), (6, .own 0 0), (7, .sl 0), (8, .v (.int .i64 l.length)), (9, .v (.int .i64 i)), (23, .v (.bool false))], ⟨[(0, .blk 47 (pSV (l.getD i default)))], hRds l A cap k heat, []⟩⟩) [] S9 (by kernel_rfl) (by kernel_rfl) (by kernel_rfl) trivial fun E9 a9 w9 SY => ?_
          have hk9 := SY.kept
          have hj9 : J (l.take k ++ [addP heat]) S2 w9 := hJ.1 _ _ _ _ hjt (hk9.mono fun j _ h => hmv j h)
          have hsl9 : ∀ s, s < 1000 → E9.sl s = (hEnv l A cap k x y z).sl s := fun s hs => (SY.pin.2.1 s hs).trans (hsl5 s hs)
          have hsz9 : W.heap.size ≤ w9.heap.size := Nat.le_trans hsz6 hk9.size
          have hsame : E9.ρ 0 = E5.ρ 0 ∨ w6.heap.size ≤ E9.ρ 0 := by
            rcases SY.sep.base 0 _ _ rfl with h | h
            · exact .inr h
            · exact .inl h
          have hown9 : ∀ j, SState.own ((⟨[(0, .v (.func (.yield ln) #[] #[])), (1, .at 1 0 0), (2, .at 2 0 0), (3, .at 3 0 0), (6, .own 0 0), (7, .sl 0), (8, .v (.int .i64 l.length)), (9, .v (.int .i64 i)), (23, .v (.bool false))], ⟨[(0, .blk 47 (pSV (l.getD i default)))], hRds l A cap k heat, []⟩⟩ : SState)) E9 j → j = E9.ρ 0 := fun j hj => by
            rcases hj with ⟨g, t, cs, hx, rfl⟩ | ⟨j', q, hx, _⟩
            · rcases look_cases hx with ⟨rfl, _⟩ | ⟨_, h2⟩
              · rfl
              · simp [look] at h2
            · simp [look] at hx
          have SZ := SY.rebase (fun j => j = E9.ρ 0) (fun j hj => hown9 j hj)
          clear SY S9
          have hmv : ∀ j, j = E9.ρ 0 → ¬ S2 j ∧ (W.heap.size ≤ j ∨ False) := fun j hj => by
            subst hj
            rcases hsame with h | h
            · rw [h]; exact hmv _ rfl
            · exact ⟨fun hs => by have := hJ.2 _ _ _ hjt _ hs; omega, .inl (Nat.le_trans hsz6 h)⟩
          refine sym_runIP (n := 0) (ro := none) lay_ok [] 10 2 [0, 1, 2, 3, 7, 8, 9, 23, 24, 25] [] (⟨[(0, .v (.func (.yield ln) #[] #[])), (1, .at 1 0 0), (2, .at 2 0 0), (3, .at 3 0 0), (7, .sl 0), (8, .v (.int .i64 l.length)), (9, .v (.int .i64 i)), (23, .v (.bool false)), (24, .v (.func (.yield ln) #[] #[])), (25, .agg (pSV (l.getD i default)))], ⟨[], hRds l A cap k heat, []⟩⟩) [] SZ (by kernel_rfl) (by kernel_rfl) (by kernel_rfl) trivial fun E10 a10 w10 S10 => ?_
          have hk10 := S10.kept
          have hj10 : J (l.take k ++ [addP heat]) S2 w10 := hJ.1 _ _ _ _ hj9 (hk10.mono fun j hlt h => hmv j h)
          have hsl10 : ∀ s, s < 1000 → E10.sl s = (hEnv l A cap k x y z).sl s := fun s hs => (S10.pin.2.1 s hs).trans (hsl9 s hs)
          have hsz10 : W.heap.size ≤ w10.heap.size := Nat.le_trans hsz9 hk10.size
          have S11 : St ⟨w10, noC, f57.ntmps, [], allR, E10.ρ, E10.sl, E10.x⟩ _ E10 a10 w10 := S10.seed rfl rfl noC
          clear S10 hk10
          have hSD : ∀ k, S2 k → ¬ DD k := fun j hj h => by
            rcases hg2 j hj with h1 | h1
            · exact hS1D j h1 h
            · have := hDs j h; omega
          have t24 := S11.slot 24 _ rfl
          have t25 := S11.slot 25 _ rfl
          have hnext : handOn l (addP heat) k (i + 1) = l.take k ++ [addP heat] ++ [(l.getD i default)] := by rw [hik]; exact handOn_at (hik ▸ hi)
          have hxs2 : insertP l k heat = l.take k ++ [addP heat] ++ (l.getD i default) :: rest' := by rw [hrest, hnext]; simp
          refine sym_unguardI S11 rfl (by kernel_rfl) ?_
          refine sym_yield (x := .tmp 24) (y := .tmp 25) (u := .agg (pCells (l.getD i default)).toArray) rfl rfl (by simp [Act.eval, t24, SV.val]) (by simp [Act.eval, t25, SV.val, SV.vals]) (hY (l.take k ++ [addP heat]) (l.getD i default) rest' w10 S2 hxs2 hj10 hg2 hsz10 _) ?_
          clear t24 t25
          rintro e w5 ⟨S', hg5, hk5, he5⟩
          have hgg : Grows S1 W S' := fun j hj => by
            rcases hg5 j hj with h | h
            · exact hg2 j h
            · right; omega
          have hsz5 : W.heap.size ≤ w5.heap.size := Nat.le_trans hsz10 hk5.size
          have S6 : St ⟨w5, noC, f57.ntmps, [], allR, E10.ρ, E10.sl, E10.x⟩ _ E10 a10 w5 := hMoved S11 rfl rfl rfl hsl10 rW dx dy dz hSD hk5
          obtain ⟨t, rfl, hjt⟩ : ∃ t, e = .returned (.bool t) ∧ (if t = true then J (l.take k ++ [addP heat] ++ [(l.getD i default)]) S' w5 else Jx (l.take k ++ [addP heat] ++ [(l.getD i default)]) S' w5) := by
            rcases he5 with ⟨rfl, h⟩ | ⟨rfl, h⟩
            · exact ⟨true, rfl, by simpa only [if_true] using h⟩
            · exact ⟨false, rfl, by simpa only [Bool.false_eq_true, if_false] using h⟩
          clear he5 S11
          refine ⟨_, rfl, ?_⟩
          have S7 : St ⟨w5, noC, f57.ntmps, [], allR, E10.ρ, E10.sl, E10.x⟩ _ E10 (a10.put (some 26) (.bool t)) w5 := S6.put (d := 26) (by kernel_rfl) (.v (.bool t))
          generalize a10.put (some 26) (.bool t) = a5 at S7 ⊢
          clear S6
          refine sym_runIP (n := 0) (ro := none) lay_ok [(14, { pk := true })] 13 2 [0, 1, 2, 3, 7, 8, 9, 28] [] (⟨[(0, .v (.func (.yield ln) #[] #[])), (1, .at 1 0 0), (2, .at 2 0 0), (3, .at 3 0 0), (7, .sl 0), (8, .v (.int .i64 l.length)), (9, .v (.int .i64 i)), (28, .v (.bool (cond false true (!t))))], ⟨[], hRds l A cap k heat, []⟩⟩) [] S7 (by kernel_rfl) (by kernel_rfl) (by kernel_rfl) trivial fun E4 a6 w6 S8 => ?_
          refine sym_doneI rfl ?_
          refine out_then_normal ?_
          have hk6 : Kept noC w5 w6 := S8.kept
          have hsl6 : ∀ s, s < 1000 → E4.sl s = (hEnv l A cap k x y z).sl s := fun s hs => (S8.pin.2.1 s hs).trans (hsl10 s hs)
          have hsz6 : W.heap.size ≤ w6.heap.size := Nat.le_trans hsz5 hk6.size
          refine sym_if_last (b := cond false true (!t)) S8 rfl (fun hb => ?_) (fun hb => ?_)
          case refine_1 =>
            have ht : t = false := by simpa using hb
            subst ht
            simp only [Bool.false_eq_true, if_false] at hjt
            have hj6 : Jx (l.take k ++ [addP heat] ++ [(l.getD i default)]) S' w6 := hJx.1 _ _ _ _ hjt (hk6.mono fun k _ h => h.elim)
            refine wp_ret ?_
            refine out_block_ret ?_
            refine out_then_ret ?_
            refine out_then_ret ?_
            refine out_block_ret ?_
            refine out_then_ret ?_
            exact sym_ret lay_ok [] (by kernel_rfl) rfl S8 ⟨S', hgg, hsz6, .inr ⟨⟨_, rfl⟩, l.take k ++ [addP heat] ++ [(l.getD i default)], ⟨rest', by rw [List.append_assoc, List.singleton_append]; exact hxs2.symm⟩, hj6⟩⟩
          case refine_2 =>
            have ht : t = true := by simpa using hb
            subst ht
            simp only [if_true] at hjt
            have hj6 : J (handOn l (addP heat) k (i + 1)) S' w6 := by rw [hnext]; exact hJ.1 _ _ _ _ hjt (hk6.mono fun k _ h => h.elim)
            refine wp_skip ?_
            refine out_block_normal ?_
            refine out_then_normal ?_
            replace S8 : St ⟨w6, noC, f57.ntmps, [], allR, E4.ρ, E4.sl, E4.x⟩ _ E4 a6 w6 := S8.seed rfl rfl noC
            refine sym_last lay_ok mixed [] [0, 1, 2, 3, 7, 8, 9] [] (hH ln l A cap k heat (i + 1)) [.rng .i64 (i + 1)] S8 (by kernel_rfl) (by kernel_rfl) (by kernel_rfl) ⟨rngI64 ⟨by omega, by omega⟩, trivial⟩ fun E5 a7 w7 S9 => ?_
            refine out_then_normal ?_
            have hk7 : Kept noC w6 w7 := S9.kept
            exact ih E5 a7 w7 _ ⟨S9.seed rfl rfl noC, fun s hs => (S9.pin.2.1 s hs).trans (hsl6 s hs), by omega, by omega, ⟨S', hJ.1 _ _ _ _ hj6 (hk7.mono fun k _ h => h.elim), hgg⟩, Nat.le_trans hsz6 hk7.size⟩
      · -- the slices that it reads
        have hq' := hq
        have one : ∀ {u b off : Nat}, (some (⟨u, 0, none⟩ : Addr)) = some ⟨b, off, none⟩ → u = b := fun h => by injection h with h1; injection h1
        have hd : DD b := by
          rcases look_cases hq with ⟨rfl, rfl⟩ | ⟨_, h2⟩
          · rw [hsl5 0 (by decide)] at hA
            exact rW b off hl hA
          · rcases look_cases h2 with ⟨rfl, rfl⟩ | ⟨_, h3⟩
            · rw [hsl5 1 (by decide)] at hA
              exact one hA ▸ dx
            · rcases look_cases h3 with ⟨rfl, rfl⟩ | ⟨_, h4⟩
              · rw [hsl5 2 (by decide)] at hA
                exact one hA ▸ dy
              · rcases look_cases h4 with ⟨rfl, rfl⟩ | ⟨_, h5⟩
                · rw [hsl5 3 (by decide)] at hA
                  exact one hA ▸ dz
                · simp [look] at h5
        exact hSD0 b hs hd
    · have S4 := (SC.reslot (t := 17) (sv' := .v (.bool false)) rfl (by simp [SV.val]; omega)).pick [0, 1, 2, 3, 6, 7, 8, 9, 17] [0] (⟨[(0, .v (.func (.yield ln) #[] #[])), (1, .at 1 0 0), (2, .at 2 0 0), (3, .at 3 0 0), (6, .own 0 0), (7, .sl 0), (8, .v (.int .i64 l.length)), (9, .v (.int .i64 i)), (17, .v (.bool false))], ⟨[(0, .blk 47 (pSV (l.getD i default)))], hRds l A cap k heat, []⟩⟩) rfl
      clear SC
      refine sym_runIP (n := 0) (ro := none) lay_ok [] 4 6 [0, 1, 2, 3, 6, 7, 8, 9, 23] [0] (⟨[(0, .v (.func (.yield ln) #[] #[])), (1, .at 1 0 0), (2, .at 2 0 0), (3, .at 3 0 0), (6, .own 0 0), (7, .sl 0), (8, .v (.int .i64 l.length)), (9, .v (.int .i64 i)), (23, .v (.bool false))], ⟨[(0, .blk 47 (pSV (l.getD i default)))], hRds l A cap k heat, []⟩⟩) [] S4 (by kernel_rfl) (by kernel_rfl) (by kernel_rfl) trivial fun E9 a9 w9 SZ => ?_
      have hsl9 : ∀ s, s < 1000 → E9.sl s = (hEnv l A cap k x y z).sl s := fun s hs => (SZ.pin.2.1 s hs).trans (hsl1 s hs)
      have hmv : ∀ j, False → ¬ S' j ∧ (W.heap.size ≤ j ∨ False) := fun j h => h.elim
      clear S4
      refine sym_runIP (n := 0) (ro := none) lay_ok [] 10 2 [0, 1, 2, 3, 7, 8, 9, 23, 24, 25] [] (⟨[(0, .v (.func (.yield ln) #[] #[])), (1, .at 1 0 0), (2, .at 2 0 0), (3, .at 3 0 0), (7, .sl 0), (8, .v (.int .i64 l.length)), (9, .v (.int .i64 i)), (23, .v (.bool false)), (24, .v (.func (.yield ln) #[] #[])), (25, .agg (pSV (l.getD i default)))], ⟨[], hRds l A cap k heat, []⟩⟩) [] SZ (by kernel_rfl) (by kernel_rfl) (by kernel_rfl) trivial fun E10 a10 w10 S10 => ?_
      have hk10 := S10.kept
      have hj10 : J (handOn l (addP heat) k i) S' w10 := hJ.1 _ _ _ _ hj1 (hk10.mono fun j hlt h => hmv j h)
      have hsl10 : ∀ s, s < 1000 → E10.sl s = (hEnv l A cap k x y z).sl s := fun s hs => (S10.pin.2.1 s hs).trans (hsl1 s hs)
      have hsz10 : W.heap.size ≤ w10.heap.size := Nat.le_trans hsz1 hk10.size
      have S11 : St ⟨w10, noC, f57.ntmps, [], allR, E10.ρ, E10.sl, E10.x⟩ _ E10 a10 w10 := S10.seed rfl rfl noC
      clear S10 hk10
      have hSD : ∀ k, S' k → ¬ DD k := fun j hj h => by
        rcases hg j hj with h1 | h1
        · exact hS1D j h1 h
        · have := hDs j h; omega
      have t24 := S11.slot 24 _ rfl
      have t25 := S11.slot 25 _ rfl
      have hnext : handOn l (addP heat) k (i + 1) = handOn l (addP heat) k i ++ [(l.getD i default)] := handOn_next hi hik
      have hxs2 : insertP l k heat = handOn l (addP heat) k i ++ (l.getD i default) :: rest' := by rw [hrest, hnext]; simp
      refine sym_unguardI S11 rfl (by kernel_rfl) ?_
      refine sym_yield (x := .tmp 24) (y := .tmp 25) (u := .agg (pCells (l.getD i default)).toArray) rfl rfl (by simp [Act.eval, t24, SV.val]) (by simp [Act.eval, t25, SV.val, SV.vals]) (hY (handOn l (addP heat) k i) (l.getD i default) rest' w10 S' hxs2 hj10 hg hsz10 _) ?_
      clear t24 t25
      rintro e w5 ⟨S', hg5, hk5, he5⟩
      have hgg : Grows S1 W S' := fun j hj => by
        rcases hg5 j hj with h | h
        · exact hg j h
        · right; omega
      have hsz5 : W.heap.size ≤ w5.heap.size := Nat.le_trans hsz10 hk5.size
      have S6 : St ⟨w5, noC, f57.ntmps, [], allR, E10.ρ, E10.sl, E10.x⟩ _ E10 a10 w5 := hMoved S11 rfl rfl rfl hsl10 rW dx dy dz hSD hk5
      obtain ⟨t, rfl, hjt⟩ : ∃ t, e = .returned (.bool t) ∧ (if t = true then J (handOn l (addP heat) k i ++ [(l.getD i default)]) S' w5 else Jx (handOn l (addP heat) k i ++ [(l.getD i default)]) S' w5) := by
        rcases he5 with ⟨rfl, h⟩ | ⟨rfl, h⟩
        · exact ⟨true, rfl, by simpa only [if_true] using h⟩
        · exact ⟨false, rfl, by simpa only [Bool.false_eq_true, if_false] using h⟩
      clear he5 S11
      refine ⟨_, rfl, ?_⟩
      have S7 : St ⟨w5, noC, f57.ntmps, [], allR, E10.ρ, E10.sl, E10.x⟩ _ E10 (a10.put (some 26) (.bool t)) w5 := S6.put (d := 26) (by kernel_rfl) (.v (.bool t))
      generalize a10.put (some 26) (.bool t) = a5 at S7 ⊢
      clear S6
      refine sym_runIP (n := 0) (ro := none) lay_ok [(14, { pk := true })] 13 2 [0, 1, 2, 3, 7, 8, 9, 28] [] (⟨[(0, .v (.func (.yield ln) #[] #[])), (1, .at 1 0 0), (2, .at 2 0 0), (3, .at 3 0 0), (7, .sl 0), (8, .v (.int .i64 l.length)), (9, .v (.int .i64 i)), (28, .v (.bool (cond false true (!t))))], ⟨[], hRds l A cap k heat, []⟩⟩) [] S7 (by kernel_rfl) (by kernel_rfl) (by kernel_rfl) trivial fun E4 a6 w6 S8 => ?_
      refine sym_doneI rfl ?_
      refine out_then_normal ?_
      have hk6 : Kept noC w5 w6 := S8.kept
      have hsl6 : ∀ s, s < 1000 → E4.sl s = (hEnv l A cap k x y z).sl s := fun s hs => (S8.pin.2.1 s hs).trans (hsl10 s hs)
      have hsz6 : W.heap.size ≤ w6.heap.size := Nat.le_trans hsz5 hk6.size
      refine sym_if_last (b := cond false true (!t)) S8 rfl (fun hb => ?_) (fun hb => ?_)
      case refine_1 =>
        have ht : t = false := by simpa using hb
        subst ht
        simp only [Bool.false_eq_true, if_false] at hjt
        have hj6 : Jx (handOn l (addP heat) k i ++ [(l.getD i default)]) S' w6 := hJx.1 _ _ _ _ hjt (hk6.mono fun k _ h => h.elim)
        refine wp_ret ?_
        refine out_block_ret ?_
        refine out_then_ret ?_
        refine out_then_ret ?_
        refine out_block_ret ?_
        refine out_then_ret ?_
        exact sym_ret lay_ok [] (by kernel_rfl) rfl S8 ⟨S', hgg, hsz6, .inr ⟨⟨_, rfl⟩, handOn l (addP heat) k i ++ [(l.getD i default)], ⟨rest', by rw [List.append_assoc, List.singleton_append]; exact hxs2.symm⟩, hj6⟩⟩
      case refine_2 =>
        have ht : t = true := by simpa using hb
        subst ht
        simp only [if_true] at hjt
        have hj6 : J (handOn l (addP heat) k (i + 1)) S' w6 := by rw [hnext]; exact hJ.1 _ _ _ _ hjt (hk6.mono fun k _ h => h.elim)
        refine wp_skip ?_
        refine out_block_normal ?_
        refine out_then_normal ?_
        replace S8 : St ⟨w6, noC, f57.ntmps, [], allR, E4.ρ, E4.sl, E4.x⟩ _ E4 a6 w6 := S8.seed rfl rfl noC
        refine sym_last lay_ok mixed [] [0, 1, 2, 3, 7, 8, 9] [] (hH ln l A cap k heat (i + 1)) [.rng .i64 (i + 1)] S8 (by kernel_rfl) (by kernel_rfl) (by kernel_rfl) ⟨rngI64 ⟨by omega, by omega⟩, trivial⟩ fun E5 a7 w7 S9 => ?_
        refine out_then_normal ?_
        have hk7 : Kept noC w6 w7 := S9.kept
        exact ih E5 a7 w7 _ ⟨S9.seed rfl rfl noC, fun s hs => (S9.pin.2.1 s hs).trans (hsl6 s hs), by omega, by omega, ⟨S', hJ.1 _ _ _ _ hj6 (hk7.mono fun k _ h => h.elim), hgg⟩, Nat.le_trans hsz6 hk7.size⟩
/-- follow, by heated -/
theorem follow_heated (c0 : MWater) (l : List MPoint) (at' heat : Int) (W : World) (v : Nat → Value) (hb : HBox l at' heat v W) (hl : (0 : Int) ≤ at' ∧ at' ≤ ((l.length : Nat) : Int) ∧ l.length ≤ 1000000) (res : List MWater × Int) (h : followM c0 [] (insertP l at' heat) = some res) : Calls prog 35 #[.agg (wCells c0).toArray, .func (.func 57) #[] #[v 0, v 1, v 2]] W (FolPost W res) := by
  obtain ⟨x, y, z, r, hv0, hv1, hv2, hx, hy, hz, hr⟩ := hb
  obtain ⟨r1, r2, r3⟩ := hr.sl
  rw [hv0, hv1, hv2]
  rw [r1] at hx
  obtain ⟨k, rfl⟩ : ∃ k : Nat, at' = k := ⟨at'.toNat, by omega⟩
  exact follow_ok c0 (insertP l k heat) 57 _ _ W res h enters_57 (heatedSeq l r.A r.cap k x y z heat W (by omega) (by omega) r2 r3 hx hy hz) (fun k hk => hk)
end Go.Proofs.Ytlcccomdijdkaaa
