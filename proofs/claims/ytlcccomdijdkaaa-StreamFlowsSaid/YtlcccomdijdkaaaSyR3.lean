/- Models and walks, printed by program. -/
import Derived.Test.YtlcccomdijdkaaaSyR2
import Derived.Test.YtlcccomdijdkaaaSyHeld
namespace Go.Proofs.Ytlcccomdijdkaaa
open Go.RowKit Go.Proofs.Try

/-- the two blocks that try has caught: an hour, and itself -/
def TBox (by' : Int) (v : Nat → Value) (w : World) : Prop := ∃ b0 b1, v 0 = .pointer (some ⟨b0, 0, none⟩) ∧ v 1 = .pointer (some ⟨b1, 0, none⟩) ∧ Blk w b0 3 #[.int .i64 by'] ∧ Blk w b1 97 #[.func (.func 61) #[] #[.pointer (some ⟨b0, 0, none⟩), .pointer (some ⟨b1, 0, none⟩)]]
/-- a slice of elements of four cells does not lie in a block of one -/
theorem rd_ne_small {W : World} {b T : Nat} {x : Value} {A : Option Addr} {len n : Nat} {get : Nat → List Value} (hB : Blk W b T #[x]) (s : SlAt W A len n get) (h0 : ∃ v, (get 0)[3]? = some v) : InR (fun k => k ≠ b) A len := fun b' off hl hA e => by
  subst e
  obtain ⟨b2, off2, hA2, _, hc⟩ := s hl
  rw [hA] at hA2
  injection hA2 with e1
  injection e1 with e2 e3
  subst e2 e3
  obtain ⟨v, hg⟩ := h0
  have := hc 0 hl 3 _ hg
  rw [hB.cell] at this
  simp at this
theorem rd_ne_arr {W : World} {b T : Nat} {L : List Int} {A : Option Addr} {len n : Nat} {get : Nat → List Value} (_ : Blk W b T (arrV L)) (h : InR (fun k => k ≠ b) A len) : InR (fun k => k ≠ b) A len := h
theorem InR.and {R R' : Nat → Prop} {A : Option Addr} {len : Nat} (h : InR R A len) (h' : InR R' A len) : InR (fun k => R k ∧ R' k) A len := fun b off hl hA => ⟨h b off hl hA, h' b off hl hA⟩
def tryB_k1 (rest : List MBurner) (x1 : Unit) : Option Bool :=
some (((rest.length : Nat) : Int) == 0)
def tryB_l1 (fuel : Nat) (by' : Int) (L : List Int) (rest : List MBurner) (rc : List Int → List MBurner → Option Bool) : Nat → Int → Option (Lp Unit Bool)
  | 0, _ => none
  | n + 1, b1 =>
    (bif decide (b1 < ((rest.length : Nat) : Int)) then
    (grd (((0 : Int) ≤ b1 ∧ (b1 : Int) < ((rest.length : Nat) : Int))) <|
    (stream_hours_start fuel L (rest.getD (Int.toNat b1) default) ((rest.getD (Int.toNat b1) default).ready) by').bind fun (r1 : (Int × Bool)) =>
    (bif (!r1.2) then
    (some (Lp.ret false))
    else
    ((stream_hours_without fuel L (rest.getD (Int.toNat b1) default) r1.1).bind fun (r2 : (List Int)) =>
    grd (((0 : Int) ≤ 0 ∧ 0 ≤ b1 ∧ b1 ≤ ((rest.length : Nat) : Int)) ∧ InI64 (b1 + 1) ∧ ((0 : Int) ≤ (b1 + 1) ∧ (b1 + 1) ≤ ((rest.length : Nat) : Int) ∧ ((rest.length : Nat) : Int) ≤ ((rest.length : Nat) : Int))) <|
    (concatM ((rest.drop 0).take ((Int.toNat b1) - 0)) ((rest.drop (Int.toNat (b1 + 1))).take (rest.length - (Int.toNat (b1 + 1))))).bind fun (r3 : List MBurner) =>
    (rc r2 r3).bind fun (r4 : Bool) =>
    (bif r4 then
    (some (Lp.ret true))
    else
    (grd (InI64 (b1 + 1)) <|
    tryB_l1 fuel by' L rest rc n (b1 + 1))))))
    else
    (some (Lp.done ())))
def tryB (fuel : Nat) (rc : List Int → List MBurner → Option Bool) (by' : Int) (L : List Int) (rest : List MBurner) : Option Bool :=
(tryB_l1 fuel by' L rest rc fuel 0).bind fun lr1 => lr1.go fun x1 => tryB_k1 rest x1
set_option maxRecDepth 100000 in
set_option maxHeartbeats 4000000 in
theorem tryB_ok (fuel : Nat) (rc : List Int → List MBurner → Option Bool) (by' : Int) (hrc : ∀ (L : List Int) (rest : List MBurner) (W : World) (A0 : Option Addr) (c0 : Nat) (h0 : rest.length ≤ c0) (s0 : SlAt W A0 rest.length 4 fun i => bCells (rest.getD i default)) (v : Nat → Value) (hL : TBox by' v W) (res : Bool) (h : rc L rest = some res), Calls Go.Proofs.Try.prog 61 #[.agg (arrV L), .slice A0 rest.length c0, v 0, v 1] W fun e w' => e = .returned (.bool res) ∧ Below W.heap.size W w')
    (L : List Int) (rest : List MBurner) (W : World) (A0 : Option Addr) (c0 : Nat) (h0 : rest.length ≤ c0) (s0 : SlAt W A0 rest.length 4 fun i => bCells (rest.getD i default)) (v : Nat → Value) (hL : TBox by' v W) (res : Bool) (h : tryB fuel rc by' L rest = some res) : Calls Go.Proofs.Try.prog 61 #[.agg (arrV L), .slice A0 rest.length c0, v 0, v 1] W fun e w' => e = .returned (.bool res) ∧ Below W.heap.size W w' := by
  obtain ⟨bA, bB, v0, v1, B0, B1⟩ := hL
  rw [v0, v1, ← arr_valsA (envC [(0, ⟨A0, rest.length, c0, 4⟩)] [] [⟨1000, bA, 3, [.v (.int .i64 by')]⟩, ⟨1001, bB, 97, [.fn 61 [.own 1000 0, .own 1001 0]]⟩]) L]
  have hA : ApartCB [⟨1000, bA, 3, [.v (.int .i64 by')]⟩, ⟨1001, bB, 97, [.fn 61 [.own 1000 0, .own 1001 0]]⟩] := ⟨⟨blk_ne B0 B1 (by decide), trivial⟩, trivial, trivial⟩
  have hB : AllCB W (envC [(0, ⟨A0, rest.length, c0, 4⟩)] [] [⟨1000, bA, 3, [.v (.int .i64 by')]⟩, ⟨1001, bB, 97, [.fn 61 [.own 1000 0, .own 1001 0]]⟩]) [⟨1000, bA, 3, [.v (.int .i64 by')]⟩, ⟨1001, bB, 97, [.fn 61 [.own 1000 0, .own 1001 0]]⟩] := ⟨B0, B1, trivial⟩
  refine sym_closure (f := 61) (fn := Go.Proofs.Try.f61) (c := Go.Proofs.Try.f61.body.get rfl) Go.Proofs.Try.func61 rfl [.agg (arrSV L), .sl 0, .own 1000 0, .own 1001 0] [(0, bQ rest)] [(0, ⟨A0, rest.length, c0, 4⟩)] [⟨1000, bA, 3, [.v (.int .i64 by')]⟩, ⟨1001, bB, 97, [.fn 61 [.own 1000 0, .own 1001 0]]⟩] [(1000, .blk 3 [.v (.int .i64 by')]), (1001, .blk 97 [.fn 61 [.own 1000 0, .own 1001 0]])] rfl (by kernel_rfl) hB hA ⟨s0.rd h0, trivial⟩ ⟨(rd_ne_small B0 s0 ⟨_, rfl⟩).and ((rd_ne_small B1 s0 ⟨_, rfl⟩).and (fun _ _ _ _ => trivial)), trivial⟩ fun E a w S => ?_
  rw [tryB] at h
  refine sym_seq lay_ok mixed [(0, { g := 0 })] [1, 2, 3, 4] [1000, 1001, 0] (⟨[(1, .sl 0), (2, .own 1000 0), (3, .own 1001 0), (4, .own 0 0)], ⟨[(1000, .blk 3 [.v (.int .i64 by')]), (1001, .blk 97 [.fn 61 [.own 1000 0, .own 1001 0]]), (0, .blk 85 (arrSV L))], [(0, bQ rest)], []⟩⟩) [] S (by kernel_rfl) (by kernel_rfl) (by kernel_rfl) trivial ?_
  clear S; intro E a w S
  refine wp_seq ?_
  refine sym_seq lay_ok mixed [] [1, 2, 3, 4, 11, 12, 13] [1000, 1001, 0] (⟨[(1, .sl 0), (2, .own 1000 0), (3, .own 1001 0), (4, .own 0 0), (11, .sl 0), (12, .v (.int .i64 ((rest.length : Nat) : Int))), (13, .v (.int .i64 0))], ⟨[(1000, .blk 3 [.v (.int .i64 by')]), (1001, .blk 97 [.fn 61 [.own 1000 0, .own 1001 0]]), (0, .blk 85 (arrSV L))], [(0, bQ rest)], []⟩⟩) [] S (by kernel_rfl) (by kernel_rfl) (by kernel_rfl) trivial ?_
  clear S; intro E a w S
  obtain ⟨lr1, e1, hp1⟩ := bind_some h
  clear h
  refine sym_block_last (G := fun a w => ∃ E, ∃ x1 : Unit, tryB_k1 rest x1 = some res ∧ St ⟨W, inCB [⟨1000, bA, 3, [.v (.int .i64 by')]⟩, ⟨1001, bB, 97, [.fn 61 [.own 1000 0, .own 1001 0]]⟩], Go.Proofs.Try.f61.ntmps, [], allR, rhoOf [⟨1000, bA, 3, [.v (.int .i64 by')]⟩, ⟨1001, bB, 97, [.fn 61 [.own 1000 0, .own 1001 0]]⟩], (envOf [(0, ⟨A0, rest.length, c0, 4⟩)]).sl, (envOf [(0, ⟨A0, rest.length, c0, 4⟩)]).x⟩ (⟨[(1, .sl 0)], ⟨[(1000, .blk 3 [.v (.int .i64 by')]), (1001, .blk 97 [.fn 61 [.own 1000 0, .own 1001 0]])], [(0, bQ rest)], []⟩⟩) E a w) ?_ ?_
  · refine wp_loop_rounds fuel ?_
    refine sym_rounds (F := fun n b1 => tryB_l1 fuel by' L rest rc n b1 = some lr1) (H := fun b1 => ⟨[(1, .sl 0), (2, .own 1000 0), (3, .own 1001 0), (4, .own 0 0), (11, .sl 0), (12, .v (.int .i64 ((rest.length : Nat) : Int))), (13, .v (.int .i64 b1))], ⟨[(1000, .blk 3 [.v (.int .i64 by')]), (1001, .blk 97 [.fn 61 [.own 1000 0, .own 1001 0]]), (0, .blk 85 (arrSV L))], [(0, bQ rest)], []⟩⟩) 0 (fun b hb => by have hb : none = some lr1 := hb; cases hb) ?_ _ _ _ _ e1 (St.cast (P := Go.Proofs.Try.prog) [] [] [1, 2, 3, 4, 11, 12, 13] [1000, 1001, 0] [0] _ [] (by kernel_rfl) trivial S)
    clear e1 S
    intro n b1 E a w h ih S
    rw [tryB_l1] at h
    refine sym_seq lay_ok mixed [] [1, 2, 3, 4, 11, 12, 13, 14] [1000, 1001, 0] (⟨[(1, .sl 0), (2, .own 1000 0), (3, .own 1001 0), (4, .own 0 0), (11, .sl 0), (12, .v (.int .i64 ((rest.length : Nat) : Int))), (13, .v (.int .i64 b1)), (14, .v (.bool (decide (b1 < ((rest.length : Nat) : Int)))))], ⟨[(1000, .blk 3 [.v (.int .i64 by')]), (1001, .blk 97 [.fn 61 [.own 1000 0, .own 1001 0]]), (0, .blk 85 (arrSV L))], [(0, bQ rest)], []⟩⟩) [] S (by kernel_rfl) (by kernel_rfl) (by kernel_rfl) trivial ?_
    clear S; intro E a w S
    refine sym_if (b := decide (b1 < ((rest.length : Nat) : Int))) S rfl (fun hb1 => ?_) (fun hb1 => ?_)
    · have h := bif_t hb1 h
      refine wp_skip ?_
      refine out_then_normal ?_
      refine wp_seq ?_
      refine wp_block ?_
      obtain ⟨g1, h⟩ := grd_some h
      refine sym_seq lay_ok mixed [(3, { g := 4 })] [1, 2, 3, 4, 11, 12, 13, 8, 7] [1000, 1001, 0, 4] (⟨[(1, .sl 0), (2, .own 1000 0), (3, .own 1001 0), (4, .own 0 0), (11, .sl 0), (12, .v (.int .i64 ((rest.length : Nat) : Int))), (13, .v (.int .i64 b1)), (8, .own 4 0), (7, .v (.int .i64 b1))], ⟨[(1000, .blk 3 [.v (.int .i64 by')]), (1001, .blk 97 [.fn 61 [.own 1000 0, .own 1001 0]]), (0, .blk 85 (arrSV L)), (4, .blk 67 [.v (.int .i64 ((rest.getD (Int.toNat b1) default).ready)), .v (.int .i64 ((rest.getD (Int.toNat b1) default).due)), .v (.int .i64 ((rest.getD (Int.toNat b1) default).hours)), .v (.int .i64 ((rest.getD (Int.toNat b1) default).heat))])], [(0, bQ rest)], []⟩⟩) [.idx b1 rest.length, .idx b1 rest.length] S (by kernel_rfl) (by kernel_rfl) (by kernel_rfl) ⟨g1, g1, trivial⟩ ?_
      clear S; intro E a w S
      obtain ⟨r1, e2, h⟩ := bind_some h
      refine sym_seq lay_ok mixed [(5, { res := .tup [.v (.int .i64 r1.1), .v (.bool r1.2)] })] [1, 2, 3, 4, 11, 12, 13, 8, 7, 9, 10] [1000, 1001, 0, 4] (⟨[(1, .sl 0), (2, .own 1000 0), (3, .own 1001 0), (4, .own 0 0), (11, .sl 0), (12, .v (.int .i64 ((rest.length : Nat) : Int))), (13, .v (.int .i64 b1)), (8, .own 4 0), (7, .v (.int .i64 b1)), (9, .v (.int .i64 r1.1)), (10, .v (.bool r1.2))], ⟨[(1000, .blk 3 [.v (.int .i64 by')]), (1001, .blk 97 [.fn 61 [.own 1000 0, .own 1001 0]]), (0, .blk 85 (arrSV L)), (4, .blk 67 [.v (.int .i64 ((rest.getD (Int.toNat b1) default).ready)), .v (.int .i64 ((rest.getD (Int.toNat b1) default).due)), .v (.int .i64 ((rest.getD (Int.toNat b1) default).hours)), .v (.int .i64 ((rest.getD (Int.toNat b1) default).heat))])], [(0, bQ rest)], []⟩⟩) [.call ⟨[], [(0, bQ rest)], []⟩ 62 [.agg (arrSV L), .agg [.v (.int .i64 ((rest.getD (Int.toNat b1) default).ready)), .v (.int .i64 ((rest.getD (Int.toNat b1) default).due)), .v (.int .i64 ((rest.getD (Int.toNat b1) default).hours)), .v (.int .i64 ((rest.getD (Int.toNat b1) default).heat))], .v (.int .i64 ((rest.getD (Int.toNat b1) default).ready)), .v (.int .i64 by')] (.tup [.v (.int .i64 r1.1), .v (.bool r1.2)])] S (by kernel_rfl) (by kernel_rfl) (by kernel_rfl) ⟨⟨enters_62, fun E W _ hm => by simp only [SV.vals, SV.val, arr_valsA]; exact stream_hours_start_ok fuel L (rest.getD (Int.toNat b1) default) ((rest.getD (Int.toNat b1) default).ready) by' W r1 e2⟩, trivial⟩ ?_
      clear S; intro E a w S
      refine wp_seq ?_
      refine sym_seq lay_ok mixed [] [1, 2, 3, 4, 11, 12, 13, 8, 7, 9, 28] [1000, 1001, 0, 4] (⟨[(1, .sl 0), (2, .own 1000 0), (3, .own 1001 0), (4, .own 0 0), (11, .sl 0), (12, .v (.int .i64 ((rest.length : Nat) : Int))), (13, .v (.int .i64 b1)), (8, .own 4 0), (7, .v (.int .i64 b1)), (9, .v (.int .i64 r1.1)), (28, .v (.bool (!r1.2)))], ⟨[(1000, .blk 3 [.v (.int .i64 by')]), (1001, .blk 97 [.fn 61 [.own 1000 0, .own 1001 0]]), (0, .blk 85 (arrSV L)), (4, .blk 67 [.v (.int .i64 ((rest.getD (Int.toNat b1) default).ready)), .v (.int .i64 ((rest.getD (Int.toNat b1) default).due)), .v (.int .i64 ((rest.getD (Int.toNat b1) default).hours)), .v (.int .i64 ((rest.getD (Int.toNat b1) default).heat))])], [(0, bQ rest)], []⟩⟩) [] S (by kernel_rfl) (by kernel_rfl) (by kernel_rfl) trivial ?_
      clear S; intro E a w S
      refine sym_if_last (b := (!r1.2)) S rfl (fun hb2 => ?_) (fun hb2 => ?_)
      · have h := bif_t hb2 h
        refine sym_seq lay_ok mixed [] [6] [1000, 1001] (⟨[(6, .v (.bool false))], ⟨[(1000, .blk 3 [.v (.int .i64 by')]), (1001, .blk 97 [.fn 61 [.own 1000 0, .own 1001 0]])], [(0, bQ rest)], []⟩⟩) [] S (by kernel_rfl) (by kernel_rfl) (by kernel_rfl) trivial ?_
        clear S; intro E a w S
        refine wp_ret ?_
        refine out_then_ret ?_
        refine out_block_ret ?_
        refine out_then_ret ?_
        refine out_then_ret ?_
        refine out_block_ret ?_
        refine out_then_ret ?_
        refine out_then_ret ?_
        have hr := Option.some.inj h
        subst hr
        have hr := Option.some.inj hp1
        subst hr
        exact sym_ret lay_ok [.v (.bool false)] (by kernel_rfl) rfl S ⟨rfl, S.below_cb (cbs := [⟨1000, bA, 3, [.v (.int .i64 by')]⟩, ⟨1001, bB, 97, [.fn 61 [.own 1000 0, .own 1001 0]]⟩]) (rds0 := [(0, ⟨A0, rest.length, c0, 4⟩)]) rfl rfl rfl ⟨rfl, rfl, trivial⟩ rfl hA (show [1000, 1001].Nodup by decide) hB rfl⟩
      · have h := bif_f hb2 h
        refine wp_skip ?_
        refine out_then_normal ?_
        obtain ⟨r2, e3, h⟩ := bind_some h
        obtain ⟨⟨g2, g3, g4⟩, h⟩ := grd_some h
        obtain ⟨r3, e4, h⟩ := bind_some h
        obtain ⟨r4, e5, h⟩ := bind_some h
        refine sym_seq lay_ok mixed [(4, { res := .agg (arrSV r2) }), (12, { g := 5 }), (13, { g := 6, fp := [5], res := .ltr 6 0, hx := some (SlicesAre 0 [⟨r3.length, 4, fun i => [.int .i64 ((r3.getD i default).ready), .int .i64 ((r3.getD i default).due), .int .i64 ((r3.getD i default).hours), .int .i64 ((r3.getD i default).heat)]⟩]) }), (14, { fp := [1000, 1001, 6], res := .v (.bool r4) })] [1, 2, 3, 4, 11, 12, 13, 43] [1000, 1001, 0] (⟨[(1, .sl 0), (2, .own 1000 0), (3, .own 1001 0), (4, .own 0 0), (11, .sl 0), (12, .v (.int .i64 ((rest.length : Nat) : Int))), (13, .v (.int .i64 b1)), (43, .v (.bool r4))], ⟨[(1000, .blk 3 [.v (.int .i64 by')]), (1001, .blk 97 [.fn 61 [.own 1000 0, .own 1001 0]]), (0, .blk 85 (arrSV L))], [(0, bQ rest)], []⟩⟩) [.call ⟨[], [(0, bQ rest)], []⟩ 63 [.agg (arrSV L), .agg [.v (.int .i64 ((rest.getD (Int.toNat b1) default).ready)), .v (.int .i64 ((rest.getD (Int.toNat b1) default).due)), .v (.int .i64 ((rest.getD (Int.toNat b1) default).hours)), .v (.int .i64 ((rest.getD (Int.toNat b1) default).heat))], .v (.int .i64 r1.1)] (.agg (arrSV r2)), .sub 0 b1 rest.length, .rng .i64 (b1 + 1), .sub (b1 + 1) ((rest.length : Nat) : Int) rest.length, .callx ⟨[(5, .blk 42 [.sub 0 0 (Int.toNat b1), .sub 0 (Int.toNat (b1 + 1)) rest.length])], [(0, bQ rest)], []⟩ 6 64 [.row 5 0 2 2] (.ltr 6 0) (SlicesAre 0 [⟨r3.length, 4, fun i => [.int .i64 ((r3.getD i default).ready), .int .i64 ((r3.getD i default).due), .int .i64 ((r3.getD i default).hours), .int .i64 ((r3.getD i default).heat)]⟩]), .call ⟨[(6, .held (SlicesAre 0 [⟨r3.length, 4, fun i => [.int .i64 ((r3.getD i default).ready), .int .i64 ((r3.getD i default).due), .int .i64 ((r3.getD i default).hours), .int .i64 ((r3.getD i default).heat)]⟩])), (1000, .blk 3 [.v (.int .i64 by')]), (1001, .blk 97 [.fn 61 [.own 1000 0, .own 1001 0]])], [(0, bQ rest)], []⟩ 61 [.agg (arrSV r2), .ltr 6 0, .own 1000 0, .own 1001 0] (.v (.bool r4))] S (by kernel_rfl) (by kernel_rfl) (by kernel_rfl) ⟨⟨enters_63, fun E W _ hm => by simp only [SV.vals, SV.val, arr_valsA]; exact stream_hours_without_ok fuel L (rest.getD (Int.toNat b1) default) r1.1 W r2 e3⟩, g2, rngI64 g3, g4, ⟨enters_64, fun E W _ hm => by obtain ⟨A0, c0, q0, l0, s0, _⟩ := Mem.subM hm (s := 0) rfl 0 (Int.toNat b1) ((rest.drop 0).take ((Int.toNat b1) - 0)).length (fun i => [.int .i64 ((((rest.drop 0).take ((Int.toNat b1) - 0)).getD i default).ready), .int .i64 ((((rest.drop 0).take ((Int.toNat b1) - 0)).getD i default).due), .int .i64 ((((rest.drop 0).take ((Int.toNat b1) - 0)).getD i default).hours), .int .i64 ((((rest.drop 0).take ((Int.toNat b1) - 0)).getD i default).heat)]) (show 0 ≤ (Int.toNat b1) by have := g2; omega) (show (Int.toNat b1) ≤ rest.length by have := g2; omega) (sub_len _ _ _ (by have := g2; omega)) (fun i hi => by simp only [sub_getD _ _ _ _ hi]); obtain ⟨A1, c1, q1, l1, s1, _⟩ := Mem.subM hm (s := 0) rfl (Int.toNat (b1 + 1)) rest.length ((rest.drop (Int.toNat (b1 + 1))).take (rest.length - (Int.toNat (b1 + 1)))).length (fun i => [.int .i64 ((((rest.drop (Int.toNat (b1 + 1))).take (rest.length - (Int.toNat (b1 + 1)))).getD i default).ready), .int .i64 ((((rest.drop (Int.toNat (b1 + 1))).take (rest.length - (Int.toNat (b1 + 1)))).getD i default).due), .int .i64 ((((rest.drop (Int.toNat (b1 + 1))).take (rest.length - (Int.toNat (b1 + 1)))).getD i default).hours), .int .i64 ((((rest.drop (Int.toNat (b1 + 1))).take (rest.length - (Int.toNat (b1 + 1)))).getD i default).heat)]) (show (Int.toNat (b1 + 1)) ≤ rest.length by have := g4; omega) (show rest.length ≤ rest.length by have := g4; omega) (sub_len _ _ _ (by have := g4; omega)) (fun i hi => by simp only [sub_getD _ _ _ _ hi]); have hB := hm.blk 5 _ _ rfl; simp only [SV.vals, SV.val, q0, q1] at hB; simp only [SV.vals, SV.val, Env.updX_same]; exact (concatM_ok ((rest.drop 0).take ((Int.toNat b1) - 0)) ((rest.drop (Int.toNat (b1 + 1))).take (rest.length - (Int.toNat (b1 + 1)))) W (E.ρ 5) A0 A1 c0 c1 hB l0 s0 l1 s1 r3 e4).mono fun e w' hx => by obtain ⟨v, h1, h2, h3, h4⟩ := hx; exact ⟨v, h1, h2, h3, h4.mono fun _ _ h => .inl h⟩⟩, ⟨enters_61, fun E W _ hm => by obtain ⟨⟨A0, c0, q0, l0, s0⟩, _⟩ := (hm.held 6 _ rfl).out; have hB := hm.blk 1001 _ _ rfl; simp only [SV.vals, SV.val] at hB; simp only [SV.vals, SV.val, arr_valsA, q0]; exact hrc r2 r3 W A0 c0 l0 s0 (vfun [.pointer (some ⟨E.ρ 1000, 0, none⟩), .pointer (some ⟨E.ρ 1001, 0, none⟩)]) ⟨_, _, rfl, rfl, hm.blk 1000 _ _ rfl, hB⟩ r4 e5⟩, trivial⟩ ?_
        clear S; intro E a w S
        refine sym_if_last (b := r4) S rfl (fun hb3 => ?_) (fun hb3 => ?_)
        · have h := bif_t hb3 h
          refine sym_seq lay_ok mixed [] [6] [1000, 1001] (⟨[(6, .v (.bool true))], ⟨[(1000, .blk 3 [.v (.int .i64 by')]), (1001, .blk 97 [.fn 61 [.own 1000 0, .own 1001 0]])], [(0, bQ rest)], []⟩⟩) [] S (by kernel_rfl) (by kernel_rfl) (by kernel_rfl) trivial ?_
          clear S; intro E a w S
          refine wp_ret ?_
          refine out_block_ret ?_
          refine out_then_ret ?_
          refine out_then_ret ?_
          refine out_block_ret ?_
          refine out_then_ret ?_
          refine out_then_ret ?_
          have hr := Option.some.inj h
          subst hr
          have hr := Option.some.inj hp1
          subst hr
          exact sym_ret lay_ok [.v (.bool true)] (by kernel_rfl) rfl S ⟨rfl, S.below_cb (cbs := [⟨1000, bA, 3, [.v (.int .i64 by')]⟩, ⟨1001, bB, 97, [.fn 61 [.own 1000 0, .own 1001 0]]⟩]) (rds0 := [(0, ⟨A0, rest.length, c0, 4⟩)]) rfl rfl rfl ⟨rfl, rfl, trivial⟩ rfl hA (show [1000, 1001].Nodup by decide) hB rfl⟩
        · have h := bif_f hb3 h
          refine wp_skip ?_
          refine out_block_normal ?_
          refine out_then_normal ?_
          obtain ⟨g5, h⟩ := grd_some h
          refine sym_last lay_ok mixed [] [1, 2, 3, 4, 11, 12, 13] [1000, 1001, 0] (⟨[(1, .sl 0), (2, .own 1000 0), (3, .own 1001 0), (4, .own 0 0), (11, .sl 0), (12, .v (.int .i64 ((rest.length : Nat) : Int))), (13, .v (.int .i64 (b1 + 1)))], ⟨[(1000, .blk 3 [.v (.int .i64 by')]), (1001, .blk 97 [.fn 61 [.own 1000 0, .own 1001 0]]), (0, .blk 85 (arrSV L))], [(0, bQ rest)], []⟩⟩) [.rng .i64 (b1 + 1)] S (by kernel_rfl) (by kernel_rfl) (by kernel_rfl) ⟨rngI64 g5, trivial⟩ ?_
          clear S; intro E a w S
          refine out_then_normal ?_
          exact ih (b1 + 1) _ _ _ h (St.cast (P := Go.Proofs.Try.prog) [] [] [1, 2, 3, 4, 11, 12, 13] [1000, 1001, 0] [0] _ [] (by kernel_rfl) trivial S)
    · have h := bif_f hb1 h
      refine wp_exit ?_
      refine out_then_exit ?_
      refine out_then_exit ?_
      refine out_block_here ?_
      refine out_then_normal ?_
      have hr := Option.some.inj h
      subst hr
      exact ⟨_, (), hp1, St.cast (P := Go.Proofs.Try.prog) [] [] [1] [1000, 1001] [0] _ [] (by kernel_rfl) trivial S⟩
  clear e1 S
  rintro a w ⟨E, x1, h, S⟩
  rw [tryB_k1] at h
  refine out_then_normal ?_
  refine sym_seq lay_ok mixed [] [6] [1000, 1001] (⟨[(6, .v (.bool (((rest.length : Nat) : Int) == 0)))], ⟨[(1000, .blk 3 [.v (.int .i64 by')]), (1001, .blk 97 [.fn 61 [.own 1000 0, .own 1001 0]])], [(0, bQ rest)], []⟩⟩) [] S (by kernel_rfl) (by kernel_rfl) (by kernel_rfl) trivial ?_
  clear S; intro E a w S
  refine wp_ret ?_
  have h := Option.some.inj h
  subst h
  exact sym_ret lay_ok [.v (.bool (((rest.length : Nat) : Int) == 0))] (by kernel_rfl) rfl S ⟨rfl, S.below_cb (cbs := [⟨1000, bA, 3, [.v (.int .i64 by')]⟩, ⟨1001, bB, 97, [.fn 61 [.own 1000 0, .own 1001 0]]⟩]) (rds0 := [(0, ⟨A0, rest.length, c0, 4⟩)]) rfl rfl rfl ⟨rfl, rfl, trivial⟩ rfl hA (show [1000, 1001].Nodup by decide) hB rfl⟩
/-- try, that tries itself -/
def tryM (fuel : Nat) (by' : Int) : Nat → List Int → List MBurner → Option Bool
  | 0, _, _ => none
  | n + 1, L, rest => tryB fuel (tryM fuel by' n) by' L rest
theorem tryM_ok (fuel : Nat) (by' : Int) : ∀ (n : Nat) (L : List Int) (rest : List MBurner) (W : World) (A0 : Option Addr) (c0 : Nat) (h0 : rest.length ≤ c0) (s0 : SlAt W A0 rest.length 4 fun i => bCells (rest.getD i default)) (v : Nat → Value) (hL : TBox by' v W) (res : Bool) (h : tryM fuel by' n L rest = some res), Calls Go.Proofs.Try.prog 61 #[.agg (arrV L), .slice A0 rest.length c0, v 0, v 1] W fun e w' => e = .returned (.bool res) ∧ Below W.heap.size W w'
  | 0, _, _, _, _, _, _, _, _, _, _, h => by cases h
  | n + 1, L, rest, W, A0, c0, h0, s0, v, hL, res, h => tryB_ok fuel (tryM fuel by' n) by' (tryM_ok fuel by' n) L rest W A0 c0 h0 s0 v hL res h
def stream_hours_hasPlan_R (l : List MBurner) : List (Nat × Q) := [(0, ⟨l.length, 4, fun i => [.int .i64 ((l.getD i default).ready), .int .i64 ((l.getD i default).due), .int .i64 ((l.getD i default).hours), .int .i64 ((l.getD i default).heat)]⟩)]
def stream_hours_hasPlan (fuel : Nat) (free : List Int) (l : List MBurner) (by' : Int) : Option Bool :=
(tryM fuel by' (l.length + 1) free l).bind fun (r1 : Bool) =>
some r1
set_option maxRecDepth 100000 in
set_option maxHeartbeats 4000000 in
theorem stream_hours_hasPlan_ok (fuel : Nat) (free : List Int) (l : List MBurner) (by' : Int) (W : World) (A0 : Option Addr) (c0 : Nat) (h0 : l.length ≤ c0) (s0 : SlAt W A0 l.length 4 fun i => [.int .i64 ((l.getD i default).ready), .int .i64 ((l.getD i default).due), .int .i64 ((l.getD i default).hours), .int .i64 ((l.getD i default).heat)]) (res : Bool) (h : stream_hours_hasPlan fuel free l by' = some res) :
    Calls Go.Proofs.Try.prog 49 #[.agg (arrV free), .slice A0 l.length c0, .int .i64 by'] W fun e w' => e = .returned (.bool res) ∧ Below W.heap.size W w' := by
  rw [← arr_valsA (envOf [(0, ⟨A0, l.length, c0, 4⟩)]) free]
  refine sym_call (f := 49) (fn := Go.Proofs.Try.f49) (c := Go.Proofs.Try.f49.body.get rfl) Go.Proofs.Try.func49 rfl [.agg (arrSV free), .sl 0, .v (.int .i64 by')] (stream_hours_hasPlan_R l) [] (envOf [(0, ⟨A0, l.length, c0, 4⟩)]) allR (fun _ _ => rfl) (by kernel_rfl) (envOf_one trivial) ⟨s0.rd h0, trivial⟩ (AllRR.all _ _) trivial fun E a w S => ?_
  rw [stream_hours_hasPlan] at h
  refine sym_seq lay_ok mixed [(0, { g := 0 }), (1, { g := 1 })] [1, 3, 5] [0, 1] (⟨[(1, .sl 0), (3, .own 0 0), (5, .own 1 0)], ⟨[(0, .blk 85 (arrSV free)), (1, .blk 3 [.v (.int .i64 by')])], (stream_hours_hasPlan_R l), []⟩⟩) [] S (by kernel_rfl) (by kernel_rfl) (by kernel_rfl) trivial ?_
  clear S; intro E a w S
  refine sym_seq lay_ok mixed [(0, { g := 2 })] [1, 3, 5, 7] [0, 1, 2] (⟨[(1, .sl 0), (3, .own 0 0), (5, .own 1 0), (7, .own 2 0)], ⟨[(0, .blk 85 (arrSV free)), (1, .blk 3 [.v (.int .i64 by')]), (2, .blk 97 [.v (.nilFunc)])], (stream_hours_hasPlan_R l), []⟩⟩) [] S (by kernel_rfl) (by kernel_rfl) (by kernel_rfl) trivial ?_
  clear S; intro E a w S
  refine sym_seq lay_ok mixed [] [1, 3, 7] [0, 1, 2] (⟨[(1, .sl 0), (3, .own 0 0), (7, .own 2 0)], ⟨[(0, .blk 85 (arrSV free)), (1, .blk 3 [.v (.int .i64 by')]), (2, .blk 97 [.fn 61 [.own 1 0, .own 2 0]])], (stream_hours_hasPlan_R l), []⟩⟩) [] S (by kernel_rfl) (by kernel_rfl) (by kernel_rfl) trivial ?_
  clear S; intro E a w S
  obtain ⟨r1, e1, h⟩ := bind_some h
  refine sym_seq lay_ok mixed [(3, { fp := [1, 2], res := .v (.bool r1) })] [6] [] (⟨[(6, .v (.bool r1))], ⟨[], (stream_hours_hasPlan_R l), []⟩⟩) [.call ⟨[(1, .blk 3 [.v (.int .i64 by')]), (2, .blk 97 [.fn 61 [.own 1 0, .own 2 0]])], (stream_hours_hasPlan_R l), []⟩ 61 [.agg (arrSV free), .sl 0, .own 1 0, .own 2 0] (.v (.bool r1))] S (by kernel_rfl) (by kernel_rfl) (by kernel_rfl) ⟨⟨enters_61, fun E W _ hm => by obtain ⟨A0, c0, q0, l0, s0, _⟩ := Mem.sl hm (s := 0) rfl; have hB := hm.blk 2 _ _ rfl; simp only [SV.vals, SV.val] at hB; simp only [SV.vals, SV.val, arr_valsA, q0]; exact tryM_ok fuel by' (l.length + 1) free l W A0 c0 l0 s0 (vfun [.pointer (some ⟨E.ρ 1, 0, none⟩), .pointer (some ⟨E.ρ 2, 0, none⟩)]) ⟨_, _, rfl, rfl, hm.blk 1 _ _ rfl, hB⟩ r1 e1⟩, trivial⟩ ?_
  clear S; intro E a w S
  refine wp_ret ?_
  have h := Option.some.inj h
  subst h
  exact sym_ret lay_ok [.v (.bool r1)] (by kernel_rfl) rfl S ⟨rfl, S.below rfl⟩
def runsOff (fuel : Nat) (L : List Int) (l : List MBurner) (by' : Int) : Option Bool :=
(stream_hours_hasPlan fuel L l by').bind fun (r1 : Bool) =>
some r1
/-- the two blocks that Runs$1 has caught -/
def UBox (L : List Int) (l : List MBurner) (v : Nat → Value) (w : World) : Prop := ∃ b0 b1 r, v 0 = .pointer (some ⟨b0, 0, none⟩) ∧ v 1 = .pointer (some ⟨b1, 0, none⟩) ∧ InR (fun k => k ≠ b0 ∧ k ≠ b1 ∧ True) r.A l.length ∧ Blk w b0 85 (arrV L) ∧ Blk w b1 42 #[.slice r.A l.length r.cap] ∧ RdAt w (bQ l) r
set_option maxRecDepth 100000 in
set_option maxHeartbeats 4000000 in
theorem runsOff_ok (fuel : Nat) (L : List Int) (l : List MBurner) (by' : Int) (W : World) (v : Nat → Value) (hL : UBox L l v W) (res : Bool) (h : runsOff fuel L l by' = some res) :
    Calls Go.Proofs.Try.prog 48 #[.int .i64 by', v 0, v 1] W fun e w' => e = .returned (.bool res) ∧ Below W.heap.size W w' := by
  obtain ⟨b0, b1, r, v0, v1, r0, B0, B1, hr⟩ := hL
  obtain ⟨_, h0, s0⟩ := hr.sl
  rw [v0, v1]
  have hA : ApartCB [⟨1000, b0, 85, arrSV L⟩, ⟨1001, b1, 42, [.sl 0]⟩] := ⟨⟨blk_ne B0 B1 (by decide), trivial⟩, trivial, trivial⟩
  have hB : AllCB W (envC [(0, ⟨r.A, l.length, r.cap, 4⟩)] [] [⟨1000, b0, 85, arrSV L⟩, ⟨1001, b1, 42, [.sl 0]⟩]) [⟨1000, b0, 85, arrSV L⟩, ⟨1001, b1, 42, [.sl 0]⟩] := ⟨by rw [arr_valsA]; exact B0, B1, trivial⟩
  refine sym_closure (f := 48) (fn := Go.Proofs.Try.f48) (c := Go.Proofs.Try.f48.body.get rfl) Go.Proofs.Try.func48 rfl [.v (.int .i64 by'), .own 1000 0, .own 1001 0] [(0, bQ l)] [(0, ⟨r.A, l.length, r.cap, 4⟩)] [⟨1000, b0, 85, arrSV L⟩, ⟨1001, b1, 42, [.sl 0]⟩] [(1000, .blk 85 (arrSV L)), (1001, .blk 42 [.sl 0])] rfl (by kernel_rfl) hB hA ⟨s0.rd h0, trivial⟩ ⟨r0, trivial⟩ fun E a w S => ?_
  rw [runsOff] at h
  refine sym_seq lay_ok mixed [] [0, 1, 2] [1000, 1001] (⟨[(0, .v (.int .i64 by')), (1, .own 1000 0), (2, .own 1001 0)], ⟨[(1000, .blk 85 (arrSV L)), (1001, .blk 42 [.sl 0])], [(0, bQ l)], []⟩⟩) [] S (by kernel_rfl) (by kernel_rfl) (by kernel_rfl) trivial ?_
  clear S; intro E a w S
  obtain ⟨r1, e1, h⟩ := bind_some h
  refine sym_seq lay_ok mixed [(3, { res := .v (.bool r1) })] [4] [1000, 1001] (⟨[(4, .v (.bool r1))], ⟨[(1000, .blk 85 (arrSV L)), (1001, .blk 42 [.sl 0])], [(0, bQ l)], []⟩⟩) [.call ⟨[], [(0, bQ l)], []⟩ 49 [.agg (arrSV L), .sl 0, .v (.int .i64 by')] (.v (.bool r1))] S (by kernel_rfl) (by kernel_rfl) (by kernel_rfl) ⟨⟨enters_49, fun E W _ hm => by obtain ⟨A0, c0, q0, l0, s0, _⟩ := Mem.sl hm (s := 0) rfl; simp only [SV.vals, SV.val, arr_valsA, q0]; exact stream_hours_hasPlan_ok fuel L l by' W A0 c0 l0 s0 r1 e1⟩, trivial⟩ ?_
  clear S; intro E a w S
  refine wp_ret ?_
  have h := Option.some.inj h
  subst h
  exact sym_ret lay_ok [.v (.bool r1)] (by kernel_rfl) rfl S ⟨rfl, S.below_cb (cbs := [⟨1000, b0, 85, arrSV L⟩, ⟨1001, b1, 42, [.sl 0]⟩]) (rds0 := [(0, ⟨r.A, l.length, r.cap, 4⟩)]) rfl rfl rfl ⟨rfl, rfl, trivial⟩ rfl hA (show [1000, 1001].Nodup by decide) hB (by kernel_rfl)⟩
def searchRuns_k1  (x1 : Int) : Option Int :=
some x1
def searchRuns_l1 (fuel : Nat) (L : List Int) (l : List MBurner) : Nat → (Int × Int) → Option (Lp Int Int)
  | 0, _ => none
  | n + 1, b1 =>
    (bif decide (b1.1 < b1.2) then
    (grd (InI64 (b1.1 + b1.2) ∧ InU64 (b1.1 + b1.2) ∧ ((0 : Int) ≤ (b1.1 + b1.2)) ∧ InI64 ((b1.1 + b1.2) / 2)) <|
    (runsOff fuel L l ((b1.1 + b1.2) / 2)).bind fun (r1 : Bool) =>
    (bif (!r1) then
    (grd (InI64 (((b1.1 + b1.2) / 2) + 1)) <|
    searchRuns_l1 fuel L l n ((((b1.1 + b1.2) / 2) + 1), b1.2))
    else
    (searchRuns_l1 fuel L l n (b1.1, ((b1.1 + b1.2) / 2)))))
    else
    (some (Lp.done b1.1)))
def searchRuns (fuel : Nat) (L : List Int) (l : List MBurner) (n0 : Int) : Option Int :=
(searchRuns_l1 fuel L l fuel (0, n0)).bind fun lr1 => lr1.go fun x1 => searchRuns_k1 x1
set_option maxRecDepth 100000 in
set_option maxHeartbeats 4000000 in
theorem searchRuns_ok (fuel : Nat) (L : List Int) (l : List MBurner) (n0 : Int) (W : World) (v : Nat → Value) (hv : ∀ i, (v i).oneCell' = true) (hL : HeldIn allR W (UBox L l v)) (res : Int) (h : searchRuns fuel L l n0 = some res) :
    Calls Go.Proofs.Try.prog 44 #[.int .i64 n0, .func (.func 48) #[] #[v 0, v 1]] W fun e w' => e = .returned (.int .i64 res) ∧ Below W.heap.size W w' := by
  refine sym_call (f := 44) (fn := Go.Proofs.Try.f44) (c := Go.Proofs.Try.f44.body.get rfl) Go.Proofs.Try.func44 rfl [.v (.int .i64 n0), .fn 48 [.ltr 1500 0, .ltr 1500 1]] [] [(1500, .held (UBox L l))] (envOf [] [(1500, v)]) allR (fun _ _ => rfl) (by kernel_rfl) (envOf_one ⟨hv, trivial⟩) trivial trivial ⟨hL, trivial⟩ fun E a w S => ?_
  rw [searchRuns] at h
  refine sym_seq lay_ok mixed [] [0, 1] [1500] (⟨[(0, .v (.int .i64 n0)), (1, .fn 48 [.ltr 1500 0, .ltr 1500 1])], ⟨[(1500, .held (UBox L l))], [], []⟩⟩) [] S (by kernel_rfl) (by kernel_rfl) (by kernel_rfl) trivial ?_
  clear S; intro E a w S
  refine sym_seq lay_ok mixed [] [1, 5, 6] [1500] (⟨[(1, .fn 48 [.ltr 1500 0, .ltr 1500 1]), (5, .v (.int .i64 0)), (6, .v (.int .i64 n0))], ⟨[(1500, .held (UBox L l))], [], []⟩⟩) [] S (by kernel_rfl) (by kernel_rfl) (by kernel_rfl) trivial ?_
  clear S; intro E a w S
  obtain ⟨lr1, e1, hp1⟩ := bind_some h
  clear h
  refine sym_block_meet (G := fun a w => ∃ E, ∃ x1 : Int, searchRuns_k1 x1 = some res ∧ St ⟨W, noC, Go.Proofs.Try.f44.ntmps, [], allR, noρ, (envOf []).sl, (envOf [] [(1500, v)]).x⟩ (⟨[(5, .v (.int .i64 x1))], ⟨[(1500, .held (UBox L l))], [], []⟩⟩) E a w) ?_ ?_
  · refine wp_loop_rounds fuel ?_
    refine sym_rounds (F := fun n b1 => searchRuns_l1 fuel L l n b1 = some lr1) (H := fun b1 => ⟨[(1, .fn 48 [.ltr 1500 0, .ltr 1500 1]), (5, .v (.int .i64 b1.1)), (6, .v (.int .i64 b1.2))], ⟨[(1500, .held (UBox L l))], [], []⟩⟩) (0, n0) (fun b hb => by have hb : none = some lr1 := hb; cases hb) ?_ _ _ _ _ e1 (St.cast (P := Go.Proofs.Try.prog) [] [] [1, 5, 6] [1500] [] _ [] (by kernel_rfl) trivial S)
    clear e1 S
    intro n b1 E a w h ih S
    rw [searchRuns_l1] at h
    refine wp_seq ?_
    refine sym_seq lay_ok mixed [] [1, 5, 6, 11] [1500] (⟨[(1, .fn 48 [.ltr 1500 0, .ltr 1500 1]), (5, .v (.int .i64 b1.1)), (6, .v (.int .i64 b1.2)), (11, .v (.bool (decide (b1.1 < b1.2))))], ⟨[(1500, .held (UBox L l))], [], []⟩⟩) [] S (by kernel_rfl) (by kernel_rfl) (by kernel_rfl) trivial ?_
    clear S; intro E a w S
    refine sym_if_last (b := decide (b1.1 < b1.2)) S rfl (fun hb1 => ?_) (fun hb1 => ?_)
    · have h := bif_t hb1 h
      refine wp_skip ?_
      refine out_then_normal ?_
      refine wp_block ?_
      obtain ⟨⟨g1, g2, g3, g4⟩, h⟩ := grd_some h
      refine sym_seq lay_ok mixed [(4, { px := some (.v (.int .u64 ((b1.1 + b1.2) / 2))) })] [1, 5, 6, 7] [1500] (⟨[(1, .fn 48 [.ltr 1500 0, .ltr 1500 1]), (5, .v (.int .i64 b1.1)), (6, .v (.int .i64 b1.2)), (7, .v (.int .i64 ((b1.1 + b1.2) / 2)))], ⟨[(1500, .held (UBox L l))], [], []⟩⟩) [.rng .i64 (b1.1 + b1.2), .rng .u64 (b1.1 + b1.2), .pure ⟨[], [], []⟩ (.binOp .shr 95 (.tmp 15) (.const (.int .u64 1)) 95) [.v (.int .u64 (b1.1 + b1.2)), .v (.int .u64 1)] (.v (.int .u64 ((b1.1 + b1.2) / 2))), .rng .i64 ((b1.1 + b1.2) / 2)] S (by kernel_rfl) (by kernel_rfl) (by kernel_rfl) ⟨rngI64 g1, rngU64 g2, pure_shr1 g3, rngI64 g4, trivial⟩ ?_
      clear S; intro E a w S
      obtain ⟨r1, e2, h⟩ := bind_some h
      refine sym_seq lay_ok mixed [(2, { fp := [1500], res := .v (.bool r1) })] [1, 5, 6, 7, 21] [1500] (⟨[(1, .fn 48 [.ltr 1500 0, .ltr 1500 1]), (5, .v (.int .i64 b1.1)), (6, .v (.int .i64 b1.2)), (7, .v (.int .i64 ((b1.1 + b1.2) / 2))), (21, .v (.bool (!r1)))], ⟨[(1500, .held (UBox L l))], [], []⟩⟩) [.call ⟨[(1500, .held (UBox L l))], [], []⟩ 48 [.v (.int .i64 ((b1.1 + b1.2) / 2)), .ltr 1500 0, .ltr 1500 1] (.v (.bool r1))] S (by kernel_rfl) (by kernel_rfl) (by kernel_rfl) ⟨⟨enters_48, fun E W _ hm => runsOff_ok fuel L l ((b1.1 + b1.2) / 2) W _ (hm.held 1500 _ rfl).out r1 e2⟩, trivial⟩ ?_
      clear S; intro E a w S
      refine sym_if_last (b := (!r1)) S rfl (fun hb2 => ?_) (fun hb2 => ?_)
      · have h := bif_t hb2 h
        obtain ⟨g5, h⟩ := grd_some h
        refine sym_last lay_ok mixed [] [1, 5, 6] [1500] (⟨[(1, .fn 48 [.ltr 1500 0, .ltr 1500 1]), (5, .v (.int .i64 (((b1.1 + b1.2) / 2) + 1))), (6, .v (.int .i64 b1.2))], ⟨[(1500, .held (UBox L l))], [], []⟩⟩) [.rng .i64 (((b1.1 + b1.2) / 2) + 1)] S (by kernel_rfl) (by kernel_rfl) (by kernel_rfl) ⟨rngI64 g5, trivial⟩ ?_
        clear S; intro E a w S
        refine out_block_normal ?_
        refine out_then_normal ?_
        exact ih ((((b1.1 + b1.2) / 2) + 1), b1.2) _ _ _ h (St.cast (P := Go.Proofs.Try.prog) [] [] [1, 5, 6] [1500] [] _ [] (by kernel_rfl) trivial S)
      · have h := bif_f hb2 h
        refine sym_last lay_ok mixed [] [1, 5, 6] [1500] (⟨[(1, .fn 48 [.ltr 1500 0, .ltr 1500 1]), (5, .v (.int .i64 b1.1)), (6, .v (.int .i64 ((b1.1 + b1.2) / 2)))], ⟨[(1500, .held (UBox L l))], [], []⟩⟩) [] S (by kernel_rfl) (by kernel_rfl) (by kernel_rfl) trivial ?_
        clear S; intro E a w S
        refine out_block_normal ?_
        refine out_then_normal ?_
        exact ih (b1.1, ((b1.1 + b1.2) / 2)) _ _ _ h (St.cast (P := Go.Proofs.Try.prog) [] [] [1, 5, 6] [1500] [] _ [] (by kernel_rfl) trivial S)
    · have h := bif_f hb1 h
      refine wp_exit ?_
      refine out_then_exit ?_
      refine out_then_exit ?_
      refine out_block_here ?_
      refine out_then_normal ?_
      have hr := Option.some.inj h
      subst hr
      exact ⟨_, b1.1, hp1, St.cast (P := Go.Proofs.Try.prog) [] [] [5] [1500] [] _ [] (by kernel_rfl) trivial S⟩
  clear e1 S
  rintro a w ⟨E, x1, h, S⟩
  rw [searchRuns_k1] at h
  refine sym_seq lay_ok mixed [] [4] [1500] (⟨[(4, .v (.int .i64 x1))], ⟨[(1500, .held (UBox L l))], [], []⟩⟩) [] S (by kernel_rfl) (by kernel_rfl) (by kernel_rfl) trivial ?_
  clear S; intro E a w S
  refine wp_ret ?_
  have h := Option.some.inj h
  subst h
  exact sym_ret lay_ok [.v (.int .i64 x1)] (by kernel_rfl) rfl S ⟨rfl, S.below rfl⟩
end Go.Proofs.Ytlcccomdijdkaaa
