/- Models and walks, printed by program. -/
import Derived.Test.YtlcccomdijdkaaaSyR3
namespace Go.Proofs.Ytlcccomdijdkaaa
open Go.RowKit Go.Proofs.Try

def stream_hours_plan_R (l : List MBurner) : List (Nat × Q) := [(0, ⟨l.length, 4, fun i => [.int .i64 ((l.getD i default).ready), .int .i64 ((l.getD i default).due), .int .i64 ((l.getD i default).hours), .int .i64 ((l.getD i default).heat)]⟩)]
def stream_hours_plan_l2 (fuel : Nat) (l : List MBurner) (by' : Int) (b1 : Int × List Int × List Int) : Nat → (Int × Bool) → Option (Lp (List Int × List Int) (Lp (List Int) (List Int)))
  | 0, _ => none
  | n + 1, b2 =>
    (bif b2.2 then
    ((stream_hours_without fuel b1.2.1 (l.getD (Int.toNat b1.1) default) b2.1).bind fun (r2 : (List Int)) =>
    grd (InI64 (b1.1 + 1) ∧ ((0 : Int) ≤ (b1.1 + 1) ∧ (b1.1 + 1) ≤ ((l.length : Nat) : Int) ∧ ((l.length : Nat) : Int) ≤ ((l.length : Nat) : Int))) <|
    (stream_hours_hasPlan fuel r2 ((l.drop (Int.toNat (b1.1 + 1))).take (l.length - (Int.toNat (b1.1 + 1)))) by').bind fun (r3 : Bool) =>
    (bif r3 then
    (grd ((b1.2.2.length + 1 ≤ 1000000)) <|
    some (Lp.done (r2, (b1.2.2 ++ [b2.1]))))
    else
    (grd (InI64 (b2.1 + 1)) <|
    (stream_hours_start fuel b1.2.1 (l.getD (Int.toNat b1.1) default) (b2.1 + 1) by').bind fun (r4 : (Int × Bool)) =>
    stream_hours_plan_l2 fuel l by' b1 n (r4.1, r4.2))))
    else
    (some (Lp.done (b1.2.1, b1.2.2))))
def stream_hours_plan_k1  (x1 : List Int) : Option (List Int) :=
some x1
def stream_hours_plan_l1 (fuel : Nat) (l : List MBurner) (by' : Int) : Nat → (Int × List Int × List Int) → Option (Lp (List Int) (List Int))
  | 0, _ => none
  | n + 1, b1 =>
    (bif decide (b1.1 < ((l.length : Nat) : Int)) then
    (grd (((0 : Int) ≤ b1.1 ∧ (b1.1 : Int) < ((l.length : Nat) : Int))) <|
    (stream_hours_start fuel b1.2.1 (l.getD (Int.toNat b1.1) default) ((l.getD (Int.toNat b1.1) default).ready) by').bind fun (r1 : (Int × Bool)) =>
    (stream_hours_plan_l2 fuel l by' b1 fuel (r1.1, r1.2)).bind fun lr2 => lr2.go fun x2 => (fun (x2 : List Int × List Int) =>
    grd (InI64 (b1.1 + 1)) <|
    stream_hours_plan_l1 fuel l by' n ((b1.1 + 1), x2.1, x2.2)) x2)
    else
    (some (Lp.done b1.2.2)))
def stream_hours_plan (fuel : Nat) (free : List Int) (l : List MBurner) (by' : Int) : Option (List Int) :=
(stream_hours_plan_l1 fuel l by' fuel (0, free, ([] : List Int))).bind fun lr1 => lr1.go fun x1 => stream_hours_plan_k1 x1
set_option maxRecDepth 100000 in
set_option maxHeartbeats 4000000 in
theorem stream_hours_plan_ok (fuel : Nat) (free : List Int) (l : List MBurner) (by' : Int) (W : World) (A0 : Option Addr) (c0 : Nat) (h0 : l.length ≤ c0) (s0 : SlAt W A0 l.length 4 fun i => [.int .i64 ((l.getD i default).ready), .int .i64 ((l.getD i default).due), .int .i64 ((l.getD i default).hours), .int .i64 ((l.getD i default).heat)]) (res : List Int) (h : stream_hours_plan fuel free l by' = some res) :
    Calls Go.Proofs.Try.prog 50 #[.agg (arrV free), .slice A0 l.length c0, .int .i64 by'] W fun e w' => ∃ v : Nat → Value, e = .returned (v 0) ∧ Below W.heap.size W w' ∧ (∀ i, (v i).oneCell' = true) ∧ HeldIn (fun k => W.heap.size ≤ k) w' (SlicesAre 0 [⟨res.length, 1, fun i => [.int .i64 (res.getD i default)]⟩] v) := by
  rw [← arr_valsA (envOf [(0, ⟨A0, l.length, c0, 4⟩)]) free]
  refine sym_call (f := 50) (fn := Go.Proofs.Try.f50) (c := Go.Proofs.Try.f50.body.get rfl) Go.Proofs.Try.func50 rfl [.agg (arrSV free), .sl 0, .v (.int .i64 by')] (stream_hours_plan_R l) [] (envOf [(0, ⟨A0, l.length, c0, 4⟩)]) allR (fun _ _ => rfl) (by kernel_rfl) (envOf_one trivial) ⟨s0.rd h0, trivial⟩ (AllRR.all _ _) trivial fun E a w S => ?_
  rw [stream_hours_plan] at h
  refine sym_seq lay_ok mixed [(0, { g := 0 })] [1, 2, 3] [0] (⟨[(1, .sl 0), (2, .v (.int .i64 by')), (3, .own 0 0)], ⟨[(0, .blk 85 (arrSV free))], (stream_hours_plan_R l), []⟩⟩) [] S (by kernel_rfl) (by kernel_rfl) (by kernel_rfl) trivial ?_
  clear S; intro E a w S
  refine wp_scope_straight ?_
  refine sym_seq lay_ok mixed [] [1, 2, 3, 7] [0] (⟨[(1, .sl 0), (2, .v (.int .i64 by')), (3, .own 0 0), (7, .v (.slice none 0 0))], ⟨[(0, .blk 85 (arrSV free))], (stream_hours_plan_R l), []⟩⟩) [] S (by kernel_rfl) (by kernel_rfl) (by kernel_rfl) trivial ?_
  clear S; intro E a w S
  refine wp_seq ?_
  refine wp_label ?_
  refine out_then_normal ?_
  refine wp_seq ?_
  refine sym_seq lay_ok mixed [] [1, 2, 3, 7, 13, 14, 15] [0] (⟨[(1, .sl 0), (2, .v (.int .i64 by')), (3, .own 0 0), (7, .v (.slice none 0 0)), (13, .sl 0), (14, .v (.int .i64 ((l.length : Nat) : Int))), (15, .v (.int .i64 0))], ⟨[(0, .blk 85 (arrSV free))], (stream_hours_plan_R l), []⟩⟩) [] S (by kernel_rfl) (by kernel_rfl) (by kernel_rfl) trivial ?_
  clear S; intro E a w S
  have S := S.nilgr 0 3 1
  have S := S.reslot (t := 7) (sv' := .gr 0) rfl (by simp [SV.val, SV.subG, Env.updG_same])
  obtain ⟨E, S⟩ : ∃ E, St ⟨W, noC, Go.Proofs.Try.f50.ntmps, [], allR, noρ, (envOf [(0, ⟨A0, l.length, c0, 4⟩)]).sl, (envOf [(0, ⟨A0, l.length, c0, 4⟩)]).x⟩ (⟨[(1, .sl 0), (2, .v (.int .i64 by')), (3, .own 0 0), (7, .gr 0), (13, .sl 0), (14, .v (.int .i64 ((l.length : Nat) : Int))), (15, .v (.int .i64 0))], ⟨[(0, .blk 85 (arrSV free))], (stream_hours_plan_R l), [(0, ⟨3, 1, ([] : List Int).length, ([] : List Int).flatMap (fun x => [.int .i64 x])⟩)]⟩⟩) E a w := ⟨_, St.pickG S [1, 2, 3, 7, 13, 14, 15] [0] [0] (⟨[(1, .sl 0), (2, .v (.int .i64 by')), (3, .own 0 0), (7, .gr 0), (13, .sl 0), (14, .v (.int .i64 ((l.length : Nat) : Int))), (15, .v (.int .i64 0))], ⟨[(0, .blk 85 (arrSV free))], (stream_hours_plan_R l), [(0, ⟨3, 1, ([] : List Int).length, ([] : List Int).flatMap (fun x => [.int .i64 x])⟩)]⟩⟩) (by kernel_rfl)⟩
  obtain ⟨lr1, e1, hp1⟩ := bind_some h
  clear h
  refine sym_block_last (G := fun a w => ∃ E, ∃ x1 : List Int, stream_hours_plan_k1 x1 = some res ∧ St ⟨W, noC, Go.Proofs.Try.f50.ntmps, [], allR, noρ, (envOf [(0, ⟨A0, l.length, c0, 4⟩)]).sl, (envOf [(0, ⟨A0, l.length, c0, 4⟩)]).x⟩ (⟨[(7, .gr 0)], ⟨[], (stream_hours_plan_R l), [(0, ⟨3, 1, x1.length, x1.flatMap (fun x => [.int .i64 x])⟩)]⟩⟩) E a w) ?_ ?_
  · refine wp_loop_rounds fuel ?_
    refine sym_rounds (F := fun n b1 => stream_hours_plan_l1 fuel l by' n b1 = some lr1) (H := fun b1 => ⟨[(1, .sl 0), (2, .v (.int .i64 by')), (3, .own 0 0), (7, .gr 0), (13, .sl 0), (14, .v (.int .i64 ((l.length : Nat) : Int))), (15, .v (.int .i64 b1.1))], ⟨[(0, .blk 85 (arrSV b1.2.1))], (stream_hours_plan_R l), [(0, ⟨3, 1, b1.2.2.length, b1.2.2.flatMap (fun x => [.int .i64 x])⟩)]⟩⟩) (0, free, ([] : List Int)) (fun b hb => by have hb : none = some lr1 := hb; cases hb) ?_ _ _ _ _ e1 (St.cast (P := Go.Proofs.Try.prog) [] [] [1, 2, 3, 7, 13, 14, 15] [0] [0] _ [] (by kernel_rfl) trivial S)
    clear e1 S
    intro n b1 E a w h ih S
    rw [stream_hours_plan_l1] at h
    refine sym_seq lay_ok mixed [] [1, 2, 3, 7, 13, 14, 15, 16] [0] (⟨[(1, .sl 0), (2, .v (.int .i64 by')), (3, .own 0 0), (7, .gr 0), (13, .sl 0), (14, .v (.int .i64 ((l.length : Nat) : Int))), (15, .v (.int .i64 b1.1)), (16, .v (.bool (decide (b1.1 < ((l.length : Nat) : Int)))))], ⟨[(0, .blk 85 (arrSV b1.2.1))], (stream_hours_plan_R l), [(0, ⟨3, 1, b1.2.2.length, b1.2.2.flatMap (fun x => [.int .i64 x])⟩)]⟩⟩) [] S (by kernel_rfl) (by kernel_rfl) (by kernel_rfl) trivial ?_
    clear S; intro E a w S
    refine sym_if (b := decide (b1.1 < ((l.length : Nat) : Int))) S rfl (fun hb1 => ?_) (fun hb1 => ?_)
    · have h := bif_t hb1 h
      refine wp_skip ?_
      refine out_then_normal ?_
      refine wp_seq ?_
      refine wp_block ?_
      obtain ⟨g1, h⟩ := grd_some h
      refine sym_seq lay_ok mixed [(3, { g := 6 })] [1, 2, 3, 7, 13, 14, 15, 9, 8] [0, 6] (⟨[(1, .sl 0), (2, .v (.int .i64 by')), (3, .own 0 0), (7, .gr 0), (13, .sl 0), (14, .v (.int .i64 ((l.length : Nat) : Int))), (15, .v (.int .i64 b1.1)), (9, .own 6 0), (8, .v (.int .i64 b1.1))], ⟨[(0, .blk 85 (arrSV b1.2.1)), (6, .blk 67 [.v (.int .i64 ((l.getD (Int.toNat b1.1) default).ready)), .v (.int .i64 ((l.getD (Int.toNat b1.1) default).due)), .v (.int .i64 ((l.getD (Int.toNat b1.1) default).hours)), .v (.int .i64 ((l.getD (Int.toNat b1.1) default).heat))])], (stream_hours_plan_R l), [(0, ⟨3, 1, b1.2.2.length, b1.2.2.flatMap (fun x => [.int .i64 x])⟩)]⟩⟩) [.idx b1.1 l.length, .idx b1.1 l.length] S (by kernel_rfl) (by kernel_rfl) (by kernel_rfl) ⟨g1, g1, trivial⟩ ?_
      clear S; intro E a w S
      obtain ⟨r1, e2, h⟩ := bind_some h
      refine sym_seq lay_ok mixed [(5, { res := .tup [.v (.int .i64 r1.1), .v (.bool r1.2)] })] [1, 2, 3, 7, 13, 14, 15, 9, 8, 10, 11] [0, 6] (⟨[(1, .sl 0), (2, .v (.int .i64 by')), (3, .own 0 0), (7, .gr 0), (13, .sl 0), (14, .v (.int .i64 ((l.length : Nat) : Int))), (15, .v (.int .i64 b1.1)), (9, .own 6 0), (8, .v (.int .i64 b1.1)), (10, .v (.int .i64 r1.1)), (11, .v (.bool r1.2))], ⟨[(0, .blk 85 (arrSV b1.2.1)), (6, .blk 67 [.v (.int .i64 ((l.getD (Int.toNat b1.1) default).ready)), .v (.int .i64 ((l.getD (Int.toNat b1.1) default).due)), .v (.int .i64 ((l.getD (Int.toNat b1.1) default).hours)), .v (.int .i64 ((l.getD (Int.toNat b1.1) default).heat))])], (stream_hours_plan_R l), [(0, ⟨3, 1, b1.2.2.length, b1.2.2.flatMap (fun x => [.int .i64 x])⟩)]⟩⟩) [.call ⟨[], (stream_hours_plan_R l), [(0, ⟨3, 1, b1.2.2.length, b1.2.2.flatMap (fun x => [.int .i64 x])⟩)]⟩ 62 [.agg (arrSV b1.2.1), .agg [.v (.int .i64 ((l.getD (Int.toNat b1.1) default).ready)), .v (.int .i64 ((l.getD (Int.toNat b1.1) default).due)), .v (.int .i64 ((l.getD (Int.toNat b1.1) default).hours)), .v (.int .i64 ((l.getD (Int.toNat b1.1) default).heat))], .v (.int .i64 ((l.getD (Int.toNat b1.1) default).ready)), .v (.int .i64 by')] (.tup [.v (.int .i64 r1.1), .v (.bool r1.2)])] S (by kernel_rfl) (by kernel_rfl) (by kernel_rfl) ⟨⟨enters_62, fun E W _ hm => by simp only [SV.vals, SV.val, arr_valsA]; exact stream_hours_start_ok fuel b1.2.1 (l.getD (Int.toNat b1.1) default) ((l.getD (Int.toNat b1.1) default).ready) by' W r1 e2⟩, trivial⟩ ?_
      clear S; intro E a w S
      obtain ⟨lr2, e3, hp2⟩ := bind_some h
      clear h
      refine sym_block_lastJ (G := fun a w => ∃ E, ∃ x2 : List Int × List Int, (fun (x2 : List Int × List Int) =>
grd (InI64 (b1.1 + 1)) <|
stream_hours_plan_l1 fuel l by' n ((b1.1 + 1), x2.1, x2.2)) x2 = some lr1 ∧ St ⟨W, noC, Go.Proofs.Try.f50.ntmps, [], allR, noρ, (envOf [(0, ⟨A0, l.length, c0, 4⟩)]).sl, (envOf [(0, ⟨A0, l.length, c0, 4⟩)]).x⟩ (⟨[(1, .sl 0), (2, .v (.int .i64 by')), (3, .own 0 0), (13, .sl 0), (14, .v (.int .i64 ((l.length : Nat) : Int))), (15, .v (.int .i64 b1.1)), (7, .gr 0)], ⟨[(0, .blk 85 (arrSV x2.1))], (stream_hours_plan_R l), [(0, ⟨3, 1, x2.2.length, x2.2.flatMap (fun x => [.int .i64 x])⟩)]⟩⟩) E a w) ?_ ?_
      · rintro a w ⟨E, x2, h, S⟩
        refine out_block_normal ?_
        refine out_then_normal ?_
        obtain ⟨g6, h⟩ := grd_some h
        refine sym_last lay_ok mixed [] [1, 2, 3, 13, 14, 15, 7] [0] (⟨[(1, .sl 0), (2, .v (.int .i64 by')), (3, .own 0 0), (13, .sl 0), (14, .v (.int .i64 ((l.length : Nat) : Int))), (15, .v (.int .i64 (b1.1 + 1))), (7, .gr 0)], ⟨[(0, .blk 85 (arrSV x2.1))], (stream_hours_plan_R l), [(0, ⟨3, 1, x2.2.length, x2.2.flatMap (fun x => [.int .i64 x])⟩)]⟩⟩) [.rng .i64 (b1.1 + 1)] S (by kernel_rfl) (by kernel_rfl) (by kernel_rfl) ⟨rngI64 g6, trivial⟩ ?_
        clear S; intro E a w S
        refine out_then_normal ?_
        exact ih ((b1.1 + 1), x2.1, x2.2) _ _ _ h (St.cast (P := Go.Proofs.Try.prog) [] [] [1, 2, 3, 7, 13, 14, 15] [0] [0] _ [] (by kernel_rfl) trivial S)
      · intro hG
        refine wp_loop_rounds fuel ?_
        refine sym_rounds (F := fun n b2 => stream_hours_plan_l2 fuel l by' b1 n b2 = some lr2) (H := fun b2 => ⟨[(1, .sl 0), (2, .v (.int .i64 by')), (3, .own 0 0), (7, .gr 0), (13, .sl 0), (14, .v (.int .i64 ((l.length : Nat) : Int))), (15, .v (.int .i64 b1.1)), (9, .own 6 0), (8, .v (.int .i64 b1.1)), (10, .v (.int .i64 b2.1)), (11, .v (.bool b2.2))], ⟨[(0, .blk 85 (arrSV b1.2.1)), (6, .blk 67 [.v (.int .i64 ((l.getD (Int.toNat b1.1) default).ready)), .v (.int .i64 ((l.getD (Int.toNat b1.1) default).due)), .v (.int .i64 ((l.getD (Int.toNat b1.1) default).hours)), .v (.int .i64 ((l.getD (Int.toNat b1.1) default).heat))])], (stream_hours_plan_R l), [(0, ⟨3, 1, b1.2.2.length, b1.2.2.flatMap (fun x => [.int .i64 x])⟩)]⟩⟩) (r1.1, r1.2) (fun b hb => by have hb : none = some lr2 := hb; cases hb) ?_ _ _ _ _ e3 (St.cast (P := Go.Proofs.Try.prog) [] [] [1, 2, 3, 7, 13, 14, 15, 9, 8, 10, 11] [0, 6] [0] _ [] (by kernel_rfl) trivial S)
        clear e3 S
        intro n b2 E a w h ih S
        rw [stream_hours_plan_l2] at h
        refine wp_seq ?_
        refine sym_seq lay_ok mixed [] [1, 2, 3, 7, 13, 14, 15, 9, 8, 10, 29] [0, 6] (⟨[(1, .sl 0), (2, .v (.int .i64 by')), (3, .own 0 0), (7, .gr 0), (13, .sl 0), (14, .v (.int .i64 ((l.length : Nat) : Int))), (15, .v (.int .i64 b1.1)), (9, .own 6 0), (8, .v (.int .i64 b1.1)), (10, .v (.int .i64 b2.1)), (29, .v (.bool b2.2))], ⟨[(0, .blk 85 (arrSV b1.2.1)), (6, .blk 67 [.v (.int .i64 ((l.getD (Int.toNat b1.1) default).ready)), .v (.int .i64 ((l.getD (Int.toNat b1.1) default).due)), .v (.int .i64 ((l.getD (Int.toNat b1.1) default).hours)), .v (.int .i64 ((l.getD (Int.toNat b1.1) default).heat))])], (stream_hours_plan_R l), [(0, ⟨3, 1, b1.2.2.length, b1.2.2.flatMap (fun x => [.int .i64 x])⟩)]⟩⟩) [] S (by kernel_rfl) (by kernel_rfl) (by kernel_rfl) trivial ?_
        clear S; intro E a w S
        refine sym_if_last (b := b2.2) S rfl (fun hb2 => ?_) (fun hb2 => ?_)
        · have h := bif_t hb2 h
          refine wp_skip ?_
          refine out_then_normal ?_
          refine wp_seq ?_
          refine wp_block ?_
          obtain ⟨r2, e4, h⟩ := bind_some h
          refine sym_seq lay_ok mixed [(3, { res := .agg (arrSV r2) }), (4, { g := 9 })] [1, 2, 3, 7, 13, 14, 15, 9, 8, 10, 12] [0, 6, 9] (⟨[(1, .sl 0), (2, .v (.int .i64 by')), (3, .own 0 0), (7, .gr 0), (13, .sl 0), (14, .v (.int .i64 ((l.length : Nat) : Int))), (15, .v (.int .i64 b1.1)), (9, .own 6 0), (8, .v (.int .i64 b1.1)), (10, .v (.int .i64 b2.1)), (12, .own 9 0)], ⟨[(0, .blk 85 (arrSV b1.2.1)), (6, .blk 67 [.v (.int .i64 ((l.getD (Int.toNat b1.1) default).ready)), .v (.int .i64 ((l.getD (Int.toNat b1.1) default).due)), .v (.int .i64 ((l.getD (Int.toNat b1.1) default).hours)), .v (.int .i64 ((l.getD (Int.toNat b1.1) default).heat))]), (9, .blk 85 (arrSV r2))], (stream_hours_plan_R l), [(0, ⟨3, 1, b1.2.2.length, b1.2.2.flatMap (fun x => [.int .i64 x])⟩)]⟩⟩) [.call ⟨[], (stream_hours_plan_R l), [(0, ⟨3, 1, b1.2.2.length, b1.2.2.flatMap (fun x => [.int .i64 x])⟩)]⟩ 63 [.agg (arrSV b1.2.1), .agg [.v (.int .i64 ((l.getD (Int.toNat b1.1) default).ready)), .v (.int .i64 ((l.getD (Int.toNat b1.1) default).due)), .v (.int .i64 ((l.getD (Int.toNat b1.1) default).hours)), .v (.int .i64 ((l.getD (Int.toNat b1.1) default).heat))], .v (.int .i64 b2.1)] (.agg (arrSV r2))] S (by kernel_rfl) (by kernel_rfl) (by kernel_rfl) ⟨⟨enters_63, fun E W _ hm => by simp only [SV.vals, SV.val, arr_valsA]; exact stream_hours_without_ok fuel b1.2.1 (l.getD (Int.toNat b1.1) default) b2.1 W r2 e4⟩, trivial⟩ ?_
          clear S; intro E a w S
          obtain ⟨⟨g2, g3⟩, h⟩ := grd_some h
          obtain ⟨r3, e5, h⟩ := bind_some h
          refine sym_seq lay_ok mixed [(6, { res := .v (.bool r3) })] [1, 2, 3, 7, 13, 14, 15, 9, 8, 10, 12, 49] [0, 6, 9] (⟨[(1, .sl 0), (2, .v (.int .i64 by')), (3, .own 0 0), (7, .gr 0), (13, .sl 0), (14, .v (.int .i64 ((l.length : Nat) : Int))), (15, .v (.int .i64 b1.1)), (9, .own 6 0), (8, .v (.int .i64 b1.1)), (10, .v (.int .i64 b2.1)), (12, .own 9 0), (49, .v (.bool r3))], ⟨[(0, .blk 85 (arrSV b1.2.1)), (6, .blk 67 [.v (.int .i64 ((l.getD (Int.toNat b1.1) default).ready)), .v (.int .i64 ((l.getD (Int.toNat b1.1) default).due)), .v (.int .i64 ((l.getD (Int.toNat b1.1) default).hours)), .v (.int .i64 ((l.getD (Int.toNat b1.1) default).heat))]), (9, .blk 85 (arrSV r2))], (stream_hours_plan_R l), [(0, ⟨3, 1, b1.2.2.length, b1.2.2.flatMap (fun x => [.int .i64 x])⟩)]⟩⟩) [.rng .i64 (b1.1 + 1), .sub (b1.1 + 1) ((l.length : Nat) : Int) l.length, .call ⟨[], (stream_hours_plan_R l), [(0, ⟨3, 1, b1.2.2.length, b1.2.2.flatMap (fun x => [.int .i64 x])⟩)]⟩ 49 [.agg (arrSV r2), .sub 0 (Int.toNat (b1.1 + 1)) l.length, .v (.int .i64 by')] (.v (.bool r3))] S (by kernel_rfl) (by kernel_rfl) (by kernel_rfl) ⟨rngI64 g2, g3, ⟨enters_49, fun E W _ hm => by obtain ⟨A0, c0, q0, l0, s0, _⟩ := Mem.subM hm (s := 0) rfl (Int.toNat (b1.1 + 1)) l.length ((l.drop (Int.toNat (b1.1 + 1))).take (l.length - (Int.toNat (b1.1 + 1)))).length (fun i => [.int .i64 ((((l.drop (Int.toNat (b1.1 + 1))).take (l.length - (Int.toNat (b1.1 + 1)))).getD i default).ready), .int .i64 ((((l.drop (Int.toNat (b1.1 + 1))).take (l.length - (Int.toNat (b1.1 + 1)))).getD i default).due), .int .i64 ((((l.drop (Int.toNat (b1.1 + 1))).take (l.length - (Int.toNat (b1.1 + 1)))).getD i default).hours), .int .i64 ((((l.drop (Int.toNat (b1.1 + 1))).take (l.length - (Int.toNat (b1.1 + 1)))).getD i default).heat)]) (show (Int.toNat (b1.1 + 1)) ≤ l.length by have := g3; omega) (show l.length ≤ l.length by have := g3; omega) (sub_len _ _ _ (by have := g3; omega)) (fun i hi => by simp only [sub_getD _ _ _ _ hi]); simp only [SV.vals, SV.val, arr_valsA, q0]; exact stream_hours_hasPlan_ok fuel r2 ((l.drop (Int.toNat (b1.1 + 1))).take (l.length - (Int.toNat (b1.1 + 1)))) by' W A0 c0 l0 s0 r3 e5⟩, trivial⟩ ?_
          clear S; intro E a w S
          refine sym_if_last (b := r3) S rfl (fun hb3 => ?_) (fun hb3 => ?_)
          · have h := bif_t hb3 h
            obtain ⟨g4, h⟩ := grd_some h
            refine wp_seq ?_
            have hb12 := S.mem.blk 9 _ _ rfl
            rw [arr_valsA] at hb12
            have ht12 := S.slot 12 _ rfl
            obtain ⟨b12, hbe⟩ : ∃ b, b = E.ρ 9 := ⟨_, rfl⟩
            simp only [SV.val] at ht12
            rw [← hbe] at hb12 ht12
            clear hbe
            refine wp_region_held (S := fun w => Blk w b12 85 (arrV r2)) mixed ?_
            have S1 : St _ _ E a { w with drawn := w.drawn + 1 } := StF.later S ⟨rfl, rfl, rfl, Nat.le_refl _, fun _ _ => rfl⟩
            have hb1 : Blk { w with drawn := w.drawn + 1 } b12 85 (arrV r2) := hb12
            generalize ({ w with drawn := w.drawn + 1 } : World) = w1 at S1 hb1 ⊢
            clear S hb12
            show wpAnyH _ _ _ _ _ (6 + 1) _ _ _
            refine wpAnyH_take (i := 0) (v := .agg (arrV r2)) rfl (by kernel_rfl) (by kernel_rfl) (by kernel_rfl) (by intro c a w h; exact h) (.inl ⟨rfl, fun w hw => ?_⟩) hb1 ?_
            · have e9 : a.eval (.tmp 12) = .pointer (some ⟨b12, 0, none⟩) := by simp [Act.eval, ht12]
              change Sem.run _ (execOp a.eval { dst := some 50, op := .load 85 (.tmp 12), type := 85, pos := _, after := #[], guard := none }) w = _
              simp only [execOp, e9, Sem.run_bind, run_ldArr lay_ok (t := 85) rfl rfl rfl hw, Result.andThen_ok, Sem.run_pure]
            have S2 := S1.put (d := 50) (by kernel_rfl) (.agg (arrSV r2))
            simp only [SV.val, arr_valsA] at S2
            replace ht12 := tmps_put (a' := a.put (some 50) (.agg (arrV r2))) ⟨_, rfl⟩ (by decide) ht12
            show wpAnyH _ _ _ _ _ (5 + 1) _ (a.put (some 50) (.agg (arrV r2))) _
            generalize a.put (some 50) (.agg (arrV r2)) = a at S2 ht12 ⊢
            clear S1
            have t7 := S2.slot 7 _ rfl
            refine wpAnyH_take (i := 1) (v := E.gr 0) rfl (by kernel_rfl) (by kernel_rfl) (by kernel_rfl) (by intro c a w h; exact h) (.inl ⟨rfl, fun w _ => by simp [execOp, Act.eval, t7, SV.val]⟩) hb1 ?_
            have S3 := S2.put (d := 51) (by kernel_rfl) (.gr 0)
            simp only [SV.val] at S3
            replace ht12 := tmps_put (a' := a.put (some 51) (E.gr 0)) ⟨_, rfl⟩ (by decide) ht12
            show wpAnyH _ _ _ _ _ (4 + 1) _ (a.put (some 51) (E.gr 0)) _
            generalize a.put (some 51) (E.gr 0) = a at S3 ht12 ⊢
            clear S2 t7
            have t10 := S3.slot 10 _ rfl
            refine wpAnyH_take (i := 2) (v := .int .i64 b2.1) rfl (by kernel_rfl) (by kernel_rfl) (by kernel_rfl) (by intro c a w h; exact h) (.inl ⟨rfl, fun w _ => by simp [execOp, Act.eval, t10, SV.val]⟩) hb1 ?_
            have S4 := S3.put (d := 52) (by kernel_rfl) (.v (.int .i64 b2.1))
            simp only [SV.val] at S4
            replace ht12 := tmps_put (a' := a.put (some 52) (.int .i64 b2.1)) ⟨_, rfl⟩ (by decide) ht12
            show wpAnyH _ _ _ _ _ (3 + 1) _ (a.put (some 52) (.int .i64 b2.1)) _
            generalize a.put (some 52) (.int .i64 b2.1) = a at S4 ht12 ⊢
            clear S3 t10
            refine wpAnyH_all (rs := [3]) (by kernel_rfl) (by simp) (fun i hi => ?_)
            obtain rfl : i = 3 := by simpa using hi
            refine wpOp_eval lay_ok rfl rfl { g := 10 } ⟨some 53, .row 10 0 1 1, some (10, .blk 3 [.v (.int .i64 b2.1)]), true⟩ [] (by kernel_rfl) trivial S4 (fun d he => by cases he; exact Nat.lt_of_succ_le (Nat.le_of_ble_eq_true rfl)) fun E5 a5 w5 S5 htr => ?_
            have ht5 := tmps_put htr (by decide) ht12
            refine ⟨(by have h9 := S5.mem.blk 9 _ _ rfl; rw [arr_valsA, S5.at_slot (t := 12) rfl ht5] at h9; exact h9), ?_⟩
            clear htr S4 ht12 hb1
            show wpAnyH _ _ _ _ _ (2 + 1) _ _ _
            refine wpAnyH_all (rs := [4]) (by kernel_rfl) (by simp) (fun i hi => ?_)
            obtain rfl : i = 4 := by simpa using hi
            refine wpOp_list rfl rfl (sym_append lay_ok rfl (.tmp 51) (.tmp 53) 33 rfl rfl S5 0 10 0 1 1 3 [.v (.int .i64 b2.1)] ⟨3, 1, b1.2.2.length, b1.2.2.flatMap (fun x => [.int .i64 x])⟩ ⟨.int .i64, 1, [.int .i64 0], false, 8⟩ ⟨.sli 3 1, 1, [.slice none 0 0], false, 24⟩ rfl rfl rfl rfl rfl rfl rfl rfl (show 0 < 1 by decide) rfl rfl (fun e he => by cases he; exact Nat.lt_of_succ_le (Nat.le_of_ble_eq_true rfl)) ⟨3, 1, (b1.2.2 ++ [b2.1]).length, (b1.2.2 ++ [b2.1]).flatMap (fun x => [.int .i64 x])⟩ rfl rfl (by simp) (fun E => by simp [SV.vals, SV.val]) (Nat.le_trans g4 (by decide)) (show (b1.2.2.length + 1) * 8 ≤ 140737488355328 by have := g4; omega) rfl fun v0 E6 a6 w6 S6 => ?_)
            intro htr
            have ht6 := tmps_put htr (by decide) ht5
            have S6 := St.pickG S6 [50, 1, 2, 3, 13, 14, 15, 12, 54] [0, 6, 9] [0] (⟨[(50, .agg (arrSV r2)), (1, .sl 0), (2, .v (.int .i64 by')), (3, .own 0 0), (13, .sl 0), (14, .v (.int .i64 ((l.length : Nat) : Int))), (15, .v (.int .i64 b1.1)), (12, .own 9 0), (54, .gr 0)], ⟨[(0, .blk 85 (arrSV b1.2.1)), (6, .blk 67 [.v (.int .i64 ((l.getD (Int.toNat b1.1) default).ready)), .v (.int .i64 ((l.getD (Int.toNat b1.1) default).due)), .v (.int .i64 ((l.getD (Int.toNat b1.1) default).hours)), .v (.int .i64 ((l.getD (Int.toNat b1.1) default).heat))]), (9, .blk 85 (arrSV r2))], (stream_hours_plan_R l), [(0, ⟨3, 1, (b1.2.2 ++ [b2.1]).length, (b1.2.2 ++ [b2.1]).flatMap (fun x => [.int .i64 x])⟩)]⟩⟩) (by kernel_rfl)
            refine ⟨(by have h9 := S6.mem.blk 9 _ _ rfl; rw [arr_valsA, S6.at_slot (t := 12) rfl ht6] at h9; exact h9), ?_⟩
            clear htr S5 ht5
            show wpAnyH _ _ _ _ _ (1 + 1) _ _ _
            refine wpAnyH_all (rs := [5]) (by kernel_rfl) (by simp) (fun i hi => ?_)
            obtain rfl : i = 5 := by simpa using hi
            refine wpOp_eval lay_ok rfl rfl {} ⟨none, .v undef, some (0, .blk 85 (arrSV r2)), false⟩ [] (by kernel_rfl) trivial S6 (fun d he => by cases he) fun E7 a7 w7 S7 htr => ?_
            have ht7 : a7.tmps[12]? = some (.pointer (some ⟨b12, 0, none⟩)) := by obtain ⟨v, e9⟩ := htr; rw [e9]; exact ht6
            have S7 := St.pickG S7 [50, 1, 2, 3, 13, 14, 15, 12, 54] [0, 6, 9] [0] (⟨[(50, .agg (arrSV r2)), (1, .sl 0), (2, .v (.int .i64 by')), (3, .own 0 0), (13, .sl 0), (14, .v (.int .i64 ((l.length : Nat) : Int))), (15, .v (.int .i64 b1.1)), (12, .own 9 0), (54, .gr 0)], ⟨[(0, .blk 85 (arrSV r2)), (6, .blk 67 [.v (.int .i64 ((l.getD (Int.toNat b1.1) default).ready)), .v (.int .i64 ((l.getD (Int.toNat b1.1) default).due)), .v (.int .i64 ((l.getD (Int.toNat b1.1) default).hours)), .v (.int .i64 ((l.getD (Int.toNat b1.1) default).heat))]), (9, .blk 85 (arrSV r2))], (stream_hours_plan_R l), [(0, ⟨3, 1, (b1.2.2 ++ [b2.1]).length, (b1.2.2 ++ [b2.1]).flatMap (fun x => [.int .i64 x])⟩)]⟩⟩) (by kernel_rfl)
            refine ⟨(by have h9 := S7.mem.blk 9 _ _ rfl; rw [arr_valsA, S7.at_slot (t := 12) rfl ht7] at h9; exact h9), ?_⟩
            clear htr S6 ht6
            show wpAnyH _ _ _ _ _ (0 + 1) _ _ _
            refine wpAnyH_all (rs := [6]) (by kernel_rfl) (by simp) (fun i hi => ?_)
            obtain rfl : i = 6 := by simpa using hi
            refine wpOp_eval lay_ok rfl rfl {} ⟨some 7, .gr 0, none, false⟩ [] (by kernel_rfl) trivial S7 (fun d he => by cases he; exact Nat.lt_of_succ_le (Nat.le_of_ble_eq_true rfl)) fun E8 a8 w8 S8 htr => ?_
            have ht8 := tmps_put htr (by decide) ht7
            refine ⟨(by have h9 := S8.mem.blk 9 _ _ rfl; rw [arr_valsA, S8.at_slot (t := 12) rfl ht8] at h9; exact h9), ?_⟩
            refine wpAnyH_done (by kernel_rfl) ?_ _
            have S := St.pickG S8 [1, 2, 3, 13, 14, 15, 7] [0] [0] (⟨[(1, .sl 0), (2, .v (.int .i64 by')), (3, .own 0 0), (13, .sl 0), (14, .v (.int .i64 ((l.length : Nat) : Int))), (15, .v (.int .i64 b1.1)), (7, .gr 0)], ⟨[(0, .blk 85 (arrSV r2))], (stream_hours_plan_R l), [(0, ⟨3, 1, (b1.2.2 ++ [b2.1]).length, (b1.2.2 ++ [b2.1]).flatMap (fun x => [.int .i64 x])⟩)]⟩⟩) (by kernel_rfl)
            clear htr ht7 ht8 S7 S8
            refine out_then_normal ?_
            refine wp_exit ?_
            refine out_block_exit (by decide) ?_
            refine out_then_exit ?_
            refine out_then_exit ?_
            refine out_block_exit (by decide) ?_
            refine out_then_exit ?_
            refine out_block_here ?_
            have hr := Option.some.inj h
            subst hr
            exact hG _ _ ⟨_, (r2, (b1.2.2 ++ [b2.1])), hp2, St.cast (P := Go.Proofs.Try.prog) [] [] [1, 2, 3, 13, 14, 15, 7] [0] [0] _ [] (by kernel_rfl) trivial S⟩
          · have h := bif_f hb3 h
            refine wp_skip ?_
            refine out_block_normal ?_
            refine out_then_normal ?_
            obtain ⟨g5, h⟩ := grd_some h
            obtain ⟨r4, e6, h⟩ := bind_some h
            refine sym_last lay_ok mixed [(5, { res := .tup [.v (.int .i64 r4.1), .v (.bool r4.2)] })] [1, 2, 3, 7, 13, 14, 15, 9, 8, 10, 11] [0, 6] (⟨[(1, .sl 0), (2, .v (.int .i64 by')), (3, .own 0 0), (7, .gr 0), (13, .sl 0), (14, .v (.int .i64 ((l.length : Nat) : Int))), (15, .v (.int .i64 b1.1)), (9, .own 6 0), (8, .v (.int .i64 b1.1)), (10, .v (.int .i64 r4.1)), (11, .v (.bool r4.2))], ⟨[(0, .blk 85 (arrSV b1.2.1)), (6, .blk 67 [.v (.int .i64 ((l.getD (Int.toNat b1.1) default).ready)), .v (.int .i64 ((l.getD (Int.toNat b1.1) default).due)), .v (.int .i64 ((l.getD (Int.toNat b1.1) default).hours)), .v (.int .i64 ((l.getD (Int.toNat b1.1) default).heat))])], (stream_hours_plan_R l), [(0, ⟨3, 1, b1.2.2.length, b1.2.2.flatMap (fun x => [.int .i64 x])⟩)]⟩⟩) [.rng .i64 (b2.1 + 1), .call ⟨[], (stream_hours_plan_R l), [(0, ⟨3, 1, b1.2.2.length, b1.2.2.flatMap (fun x => [.int .i64 x])⟩)]⟩ 62 [.agg (arrSV b1.2.1), .agg [.v (.int .i64 ((l.getD (Int.toNat b1.1) default).ready)), .v (.int .i64 ((l.getD (Int.toNat b1.1) default).due)), .v (.int .i64 ((l.getD (Int.toNat b1.1) default).hours)), .v (.int .i64 ((l.getD (Int.toNat b1.1) default).heat))], .v (.int .i64 (b2.1 + 1)), .v (.int .i64 by')] (.tup [.v (.int .i64 r4.1), .v (.bool r4.2)])] S (by kernel_rfl) (by kernel_rfl) (by kernel_rfl) ⟨rngI64 g5, ⟨enters_62, fun E W _ hm => by simp only [SV.vals, SV.val, arr_valsA]; exact stream_hours_start_ok fuel b1.2.1 (l.getD (Int.toNat b1.1) default) (b2.1 + 1) by' W r4 e6⟩, trivial⟩ ?_
            clear S; intro E a w S
            refine out_then_normal ?_
            exact ih (r4.1, r4.2) _ _ _ h (St.cast (P := Go.Proofs.Try.prog) [] [] [1, 2, 3, 7, 13, 14, 15, 9, 8, 10, 11] [0, 6] [0] _ [] (by kernel_rfl) trivial S)
        · have h := bif_f hb2 h
          refine wp_exit ?_
          refine out_then_exit ?_
          refine out_then_exit ?_
          refine out_block_here ?_
          refine out_then_normal ?_
          have hr := Option.some.inj h
          subst hr
          exact ⟨_, (b1.2.1, b1.2.2), hp2, St.cast (P := Go.Proofs.Try.prog) [] [] [1, 2, 3, 13, 14, 15, 7] [0] [0] _ [] (by kernel_rfl) trivial S⟩
    · have h := bif_f hb1 h
      refine wp_exit ?_
      refine out_then_exit ?_
      refine out_then_exit ?_
      refine out_block_here ?_
      refine out_then_normal ?_
      have hr := Option.some.inj h
      subst hr
      exact ⟨_, b1.2.2, hp1, St.cast (P := Go.Proofs.Try.prog) [] [] [7] [] [0] _ [] (by kernel_rfl) trivial S⟩
  clear e1 S
  rintro a w ⟨E, x1, h, S⟩
  rw [stream_hours_plan_k1] at h
  refine out_then_normal ?_
  refine sym_seq lay_ok mixed [] [6] [] (⟨[(6, .gr 0)], ⟨[], (stream_hours_plan_R l), [(0, ⟨3, 1, x1.length, x1.flatMap (fun x => [.int .i64 x])⟩)]⟩⟩) [] S (by kernel_rfl) (by kernel_rfl) (by kernel_rfl) trivial ?_
  clear S; intro E a w S
  refine wp_ret ?_
  refine out_scope_ret ?_
  have h := Option.some.inj h
  subst h
  exact sym_ret lay_ok [.gr 0] (by kernel_rfl) rfl S ⟨vfun [E.gr 0], rfl, S.below rfl, vfun_one [E.gr 0] ⟨(S.gr_one (k := 0) rfl), trivial⟩, (((S.mem.gr 0 _ rfl).slice (S.gr_new rfl (k := 0) rfl) 0 (vfun [E.gr 0]) rfl _ (flat_get (fun x => [.int .i64 x]) 1 (fun _ => rfl) x1)).and (HeldIn.true fun _ => trivial))⟩
end Go.Proofs.Ytlcccomdijdkaaa
