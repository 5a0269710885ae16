/- The iterator of slices.Values: point after point is handed on. -/
import Derived.Test.YtlcccomdijdkaaaSyFol
namespace Go.Proofs.Ytlcccomdijdkaaa
open Go.RowKit Go.Proofs.Try

abbrev pQ (l : List MPoint) : Q := ⟨l.length, 9, fun i => pCells (l.getD i default)⟩
/-- a world in which blocks have turned in which the slice does not lie -/
theorem vMoved {X : Ctx} {st : SState} {E : Env} {a : Act} {w w' : World} {q : Q} {A : Option Addr} {r : RS} {DD C : Nat → Prop} (S : St X st E a w) (hb : st.m.blks = []) (hg : st.m.grs = []) (hr : st.m.rds = [(0, q)]) (hs : E.sl 0 = r) (hA0 : r.A = A)
    (r0 : InR DD A q.len) (hC : ∀ k, C k → ¬ DD k) (hk : Kept C w w') : St ⟨w', noC, X.n, X.D, allR, E.ρ, E.sl, E.x⟩ st E a w' := by
  refine St.seed (St.moved (S.seed hb hg C) hk (fun s q bb off hq hl hA => ?_) (fun g Φ hx => by rw [hb] at hx; simp [look] at hx) (fun k _ hc => ⟨fun ho => ?_, .inr hc⟩)) hb hg noC
  · rw [hr] at hq
    intro hc
    rcases look_cases hq with ⟨rfl, rfl⟩ | ⟨_, h2⟩
    · rw [hs, hA0] at hA
      exact hC _ hc (r0 bb off hl hA)
    · simp [look] at h2
  · rcases ho with ⟨g, t, cs, hx, _⟩ | ⟨j, q, hq, _⟩
    · rw [hb] at hx; simp [look] at hx
    · rw [hg] at hq; simp [look] at hq
abbrev vH (ln : Nat) (l : List MPoint) (i : Nat) : SState := ⟨[(0, .v (.func (.yield ln) #[] #[])), (5, .sl 0), (6, .v (.int .i64 l.length)), (7, .v (.int .i64 i))], ⟨[], [(0, pQ l)], []⟩⟩
structure VInv (ln : Nat) (l : List MPoint) (A : Option Addr) (cap : Nat) (W : World) (S1 : Nat → Prop) (J : List MPoint → (Nat → Prop) → World → Prop) (m i : Nat) (E : Env) (a : Act) (wr : World) : Prop where
  st : St ⟨wr, noC, f55.ntmps, [], allR, E.ρ, E.sl, E.x⟩ (vH ln l i) E a wr
  sl : E.sl 0 = ⟨A, l.length, cap, 9⟩
  le : i ≤ l.length
  lt : l.length < i + m
  ex : ∃ S', J (l.take i) S' wr ∧ Grows S1 W S'
  sz : W.heap.size ≤ wr.heap.size
theorem drop_cons {α : Type} [Inhabited α] {l : List α} {i : Nat} (hi : i < l.length) : l.drop i = l.getD i default :: l.drop (i + 1) := by
  rw [List.drop_eq_getElem_cons hi]; simp [List.getD, hi]
theorem take_more {α : Type} [Inhabited α] {l : List α} {i : Nat} (hi : i < l.length) : l.take (i + 1) = l.take i ++ [l.getD i default] := by
  rw [List.take_add_one]; simp [List.getD, hi]

set_option maxRecDepth 100000 in
set_option maxHeartbeats 4000000 in
theorem valuesSeq (l : List MPoint) (A : Option Addr) (cap x : Nat) (w : World) (hl64 : (l.length : Int) ≤ 4611686018427387904) (h0 : l.length ≤ cap) (s0 : SlAt w A l.length 9 fun i => pCells (l.getD i default)) (bx : Blk w x 26 #[.slice A l.length cap]) :
    SeqT (FW none) prog 55 #[.pointer (some ⟨x, 0, none⟩)] encP l none (fun _ => False) (fun k => k < w.heap.size) (fun _ => True) w := by
  intro n ln J Jx W S1 hW hS hJ hJx hY hJ0
  refine (callsIn_wide (n := n)).2 ?_
  obtain ⟨DD, hDD⟩ : ∃ DD : Nat → Prop, DD = fun k => k < w.heap.size := ⟨_, rfl⟩
  have sW := s0.later hW
  have xW : Blk W x 26 #[.slice A l.length cap] := (hW.block x bx.lt).trans bx
  have rW : InR DD A l.length := fun bb off hl hA => by
    obtain ⟨b', off', hA', hlt, _⟩ := s0 hl
    rw [hA'] at hA
    have e : b' = bb := by simpa using congrArg (fun o => (o.map Addr.block).getD 0) hA
    rw [hDD]
    show bb < w.heap.size
    omega
  have hzW : w.heap.size ≤ W.heap.size := hW.size
  have hS1D : ∀ k, S1 k → ¬ DD k := fun k hk => by rw [hDD]; exact (hS k hk).1
  have hDs : ∀ k, DD k → k < w.heap.size := fun k hk => by rw [hDD] at hk; exact hk
  have hxl : x < w.heap.size := bx.lt
  clear s0 bx hW hS hDD
  have e1 : SlAt W (some ⟨x, 0, none⟩) 1 1 fun _ => [.slice A l.length cap] := SlAt.of_blk (vs := [.slice A l.length cap]) xW fun i hi j u hu => by
    have : i = 0 := by omega
    subst this
    simpa using hu
  refine sym_enter_at (f := 55) (fn := f55) (c := f55.body.get rfl) func55 rfl [.v (.func (.yield ln) #[] #[]), .at 1 0 0] [(0, pQ l), (1, ⟨1, 1, fun _ => [.slice A l.length cap]⟩)] [] (envOf [(0, ⟨A, l.length, cap, 9⟩), (1, ⟨some ⟨x, 0, none⟩, 1, 1, 1⟩)]) noC allR noρ (fun _ _ => rfl) (by kernel_rfl) (envOf_one trivial) (fun g t cs hx => by simp [look] at hx) (fun g g' t t' cs cs' hx => by simp [look] at hx) (fun g Φ hx => by simp [look] at hx)
    ⟨sW.rd h0, e1.rd (Nat.le_refl _), trivial⟩ (fun s q b off hq hl hA => ⟨trivial, fun g t cs hx => by simp [look] at hx⟩) fun a S => ?_
  refine sym_seq lay_ok mixed [] [0, 5, 6, 7] [] (⟨[(0, .v (.func (.yield ln) #[] #[])), (5, .v (.slice A l.length cap)), (6, .v (.int .i64 l.length)), (7, .v (.int .i64 0))], ⟨[], [(0, pQ l), (1, ⟨1, 1, fun _ => [.slice A l.length cap]⟩)], []⟩⟩) [.idx 0 1] S (by kernel_rfl) (by kernel_rfl) (by kernel_rfl) ⟨⟨by decide, by decide⟩, trivial⟩ fun E a w0 S => ?_
  have hk0 : Kept noC W w0 := S.kept
  have I0 : VInv ln l A cap W S1 J (l.length + 1) 0 E a w0 := by
    have hs : E.sl 0 = ⟨A, l.length, cap, 9⟩ := S.pin.2.1 0 (by decide)
    have S2 := (S.reslot (t := 5) (sv' := .sl 0) rfl (by simp only [SV.val, hs])).seed rfl rfl noC
    have S3 := St.cast (P := prog) [] [] [0, 5, 6, 7] [] [0] (vH ln l 0) [] (by kernel_rfl) trivial S2
    exact ⟨S3, hs, Nat.zero_le _, by omega, ⟨S1, by rw [List.take_zero]; exact hJ.1 _ _ _ _ hJ0 (hk0.mono fun k _ h => h.elim), fun k h => .inl h⟩, hk0.size⟩
  clear S hk0 hJ0 e1 sW xW
  refine wp_block ?_
  refine wp_loop_rounds (l.length + 1) ?_
  generalize l.length + 1 = M at I0 ⊢
  have I1 : ∃ i, VInv ln l A cap W S1 J M i E a w0 := ⟨0, I0⟩
  clear I0
  obtain ⟨i, I0⟩ := I1
  induction M generalizing i E a w0 with
  | zero => have := I0.le; have := I0.lt; omega
  | succ M ih =>
  rw [rounds_succ]
  obtain ⟨S, hsl, hle, hlt, ⟨S', hj, hg⟩, hsz⟩ := I0
  refine sym_seq lay_ok mixed [] [0, 5, 6, 7, 8] [] (⟨[(0, .v (.func (.yield ln) #[] #[])), (5, .sl 0), (6, .v (.int .i64 l.length)), (7, .v (.int .i64 i)), (8, .v (.bool (decide ((i : Int) < l.length))))], ⟨[], [(0, pQ l)], []⟩⟩) [] S (by kernel_rfl) (by kernel_rfl) (by kernel_rfl) trivial fun E1 a1 w1 SA => ?_
  have hk1 : Kept noC w0 w1 := SA.kept
  have hj1 : J (l.take i) S' w1 := hJ.1 _ _ _ _ hj (hk1.mono fun k _ h => h.elim)
  have hsl1 : E1.sl 0 = ⟨A, l.length, cap, 9⟩ := (SA.pin.2.1 0 (by decide)).trans hsl
  have hsz1 : W.heap.size ≤ w1.heap.size := Nat.le_trans hsz hk1.size
  have SB : St ⟨w1, noC, f55.ntmps, [], allR, E1.ρ, E1.sl, E1.x⟩ _ E1 a1 w1 := SA.seed rfl rfl noC
  clear SA S hj hsl hk1
  refine sym_if (b := decide ((i : Int) < l.length)) SB rfl (fun hb => ?_) (fun hb => ?_)
  case refine_2 =>
    have hi : i = l.length := by have := of_decide_eq_false hb; omega
    refine wp_exit ?_
    refine out_then_exit ?_
    refine out_then_exit ?_
    refine out_block_here ?_
    refine body_normal ?_
    refine sym_ret lay_ok [] (by kernel_rfl) rfl SB ⟨S', hg, hsz1, .inl ⟨by rw [hi, List.take_length] at hj1; exact hj1, ⟨_, rfl⟩, trivial⟩⟩
  case refine_1 =>
    have hi : i < l.length := by have := of_decide_eq_true hb; omega
    refine wp_skip ?_
    refine out_then_normal ?_
    refine wp_seq ?_
    refine wp_block ?_
    refine sym_seq lay_ok mixed [(2, { g := 0 })] [0, 4, 5, 6, 7] [0] (⟨[(0, .v (.func (.yield ln) #[] #[])), (4, .own 0 0), (5, .sl 0), (6, .v (.int .i64 l.length)), (7, .v (.int .i64 i))], ⟨[(0, .blk 47 (pSV (l.getD (Int.toNat i) default)))], [(0, pQ l)], []⟩⟩) [.idx i l.length, .idx i l.length] SB (by kernel_rfl) (by kernel_rfl) (by kernel_rfl) ⟨⟨by omega, by omega⟩, ⟨by omega, by omega⟩, trivial⟩ fun E2 a2 w2 SA => ?_
    refine wp_seq ((wpIn_wide (n := 0)).1 (sym_openI (ro := none) ?_))
    refine sym_runIP (n := 0) (ro := none) lay_ok [] 0 2 [0, 5, 6, 7, 11, 12] [] (⟨[(0, .v (.func (.yield ln) #[] #[])), (5, .sl 0), (6, .v (.int .i64 l.length)), (7, .v (.int .i64 i)), (11, .v (.func (.yield ln) #[] #[])), (12, .agg (pSV (l.getD (Int.toNat i) default)))], ⟨[], [(0, pQ l)], []⟩⟩) [] SA (by kernel_rfl) (by kernel_rfl) (by kernel_rfl) trivial fun E3 a3 w3 SC => ?_
    have hk3 : Kept noC w1 w3 := SC.kept
    have hj3 : J (l.take i) S' w3 := hJ.1 _ _ _ _ hj1 (hk3.mono fun k _ h => h.elim)
    have hsl3 : E3.sl 0 = ⟨A, l.length, cap, 9⟩ := (SC.pin.2.1 0 (by decide)).trans hsl1
    have hsz3 : W.heap.size ≤ w3.heap.size := Nat.le_trans hsz1 hk3.size
    rw [show Int.toNat (i : Int) = i from rfl] at SC
    have SD : St ⟨w3, noC, f55.ntmps, [], allR, E3.ρ, E3.sl, E3.x⟩ _ E3 a3 w3 := SC.seed rfl rfl noC
    clear SA SB SC hj1 hk3
    have hSD : ∀ k, S' k → ¬ DD k := fun k hk h => by
      rcases hg k hk with h1 | h1
      · exact hS1D k h1 h
      · have := hDs k h; omega
    have t11 := SD.slot 11 _ rfl
    have t12 := SD.slot 12 _ rfl
    refine sym_yield (x := .tmp 11) (y := .tmp 12) (u := .agg (pCells (l.getD i default)).toArray) rfl rfl (by simp [Act.eval, t11, SV.val]) (by simp [Act.eval, t12, SV.val, SV.vals]) (hY (l.take i) (l.getD i default) (l.drop (i + 1)) w3 S' (by rw [← drop_cons hi, List.take_append_drop]) hj3 hg hsz3 _) ?_
    clear t11 t12
    rintro e w5 ⟨S'', hg5, hk5, he5⟩
    have hgg : Grows S1 W S'' := fun k hk => by
      rcases hg5 k hk with h | h
      · exact hg k h
      · right; omega
    have hsz5 : W.heap.size ≤ w5.heap.size := Nat.le_trans hsz3 hk5.size
    have S6 : St ⟨w5, noC, f55.ntmps, [], allR, E3.ρ, E3.sl, E3.x⟩ _ E3 a3 w5 := vMoved SD rfl rfl rfl hsl3 rfl rW hSD hk5
    obtain ⟨t, rfl, hjt⟩ : ∃ t, e = .returned (.bool t) ∧ (if t = true then J (l.take i ++ [l.getD i default]) S'' w5 else Jx (l.take i ++ [l.getD i default]) S'' w5) := by
      rcases he5 with ⟨rfl, h⟩ | ⟨rfl, h⟩
      · exact ⟨true, rfl, by simpa using h⟩
      · exact ⟨false, rfl, by simpa using h⟩
    clear he5 SD
    refine ⟨_, rfl, ?_⟩
    have S7 : St ⟨w5, noC, f55.ntmps, [], allR, E3.ρ, E3.sl, E3.x⟩ _ E3 (a3.put (some 13) (.bool t)) w5 := S6.put (d := 13) (by kernel_rfl) (.v (.bool t))
    generalize a3.put (some 13) (.bool t) = a5 at S7 ⊢
    clear S6
    refine sym_runIP (n := 0) (ro := none) lay_ok [] 3 1 [0, 5, 6, 7, 14] [] (⟨[(0, .v (.func (.yield ln) #[] #[])), (5, .sl 0), (6, .v (.int .i64 l.length)), (7, .v (.int .i64 i)), (14, .v (.bool (!t)))], ⟨[], [(0, pQ l)], []⟩⟩) [] S7 (by kernel_rfl) (by kernel_rfl) (by kernel_rfl) trivial fun E4 a6 w6 S8 => ?_
    refine sym_doneI rfl ?_
    refine out_then_normal ?_
    have hk6 : Kept noC w5 w6 := S8.kept
    have hsl6 : E4.sl 0 = ⟨A, l.length, cap, 9⟩ := (S8.pin.2.1 0 (by decide)).trans hsl3
    have hsz6 : W.heap.size ≤ w6.heap.size := Nat.le_trans hsz5 hk6.size
    refine sym_if_last (b := !t) S8 rfl (fun hb => ?_) (fun hb => ?_)
    case refine_1 =>
      have ht : t = false := by simpa using hb
      subst ht
      simp only [Bool.false_eq_true, if_false] at hjt
      have hj6 : Jx (l.take i ++ [l.getD i default]) S'' w6 := hJx.1 _ _ _ _ hjt (hk6.mono fun k _ h => h.elim)
      refine wp_ret ?_
      refine out_block_ret ?_
      refine out_then_ret ?_
      refine out_then_ret ?_
      refine out_block_ret ?_
      exact sym_ret lay_ok [] (by kernel_rfl) rfl S8 ⟨S'', hgg, hsz6, .inr ⟨⟨_, rfl⟩, l.take i ++ [l.getD i default], ⟨l.drop (i + 1), by rw [List.append_assoc, List.singleton_append, ← drop_cons hi, List.take_append_drop]⟩, hj6⟩⟩
    case refine_2 =>
      have ht : t = true := by simpa using hb
      subst ht
      simp only [if_true] at hjt
      have hj6 : J (l.take (i + 1)) S'' w6 := by rw [take_more hi]; exact hJ.1 _ _ _ _ hjt (hk6.mono fun k _ h => h.elim)
      refine wp_skip ?_
      refine out_block_normal ?_
      refine out_then_normal ?_
      replace S8 : St ⟨w6, noC, f55.ntmps, [], allR, E4.ρ, E4.sl, E4.x⟩ _ E4 a6 w6 := S8.seed rfl rfl noC
      refine sym_last lay_ok mixed [] [0, 5, 6, 7] [] (vH ln l (i + 1)) [.rng .i64 (i + 1)] S8 (by kernel_rfl) (by kernel_rfl) (by kernel_rfl) ⟨rngI64 ⟨by omega, by omega⟩, trivial⟩ fun E5 a7 w7 S9 => ?_
      refine out_then_normal ?_
      have hk7 : Kept noC w6 w7 := S9.kept
      exact ih E5 a7 w7 _ ⟨S9.seed rfl rfl noC, (S9.pin.2.1 0 (by decide)).trans hsl6, by omega, by omega, ⟨S'', hJ.1 _ _ _ _ hj6 (hk7.mono fun k _ h => h.elim), hgg⟩, Nat.le_trans hsz6 hk7.size⟩
end Go.Proofs.Ytlcccomdijdkaaa
