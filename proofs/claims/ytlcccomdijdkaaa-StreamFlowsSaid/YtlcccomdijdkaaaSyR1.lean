/- Models and walks, printed by program. -/
import Derived.Test.YtlcccomdijdkaaaSyRoom
import Derived.Test.YtlcccomdijdkaaaSyGrow
namespace Go.Proofs.Ytlcccomdijdkaaa
open Go.RowKit Go.Proofs.Try

def indexOff_R (s : List Int) : List (Nat × Q) := [(0, ⟨s.length, 1, fun i => [.int .i64 (s.getD i default)]⟩)]
def indexOff_k1  (x1 : Unit) : Option Int :=
some (-1)
def indexOff_l1 (s : List Int) : Nat → Int → Option (Lp Unit Int)
  | 0, _ => none
  | n + 1, b1 =>
    (bif decide (b1 < ((s.length : Nat) : Int)) then
    (grd (((0 : Int) ≤ b1 ∧ (b1 : Int) < ((s.length : Nat) : Int))) <|
    (stream_validRoom_1 (s.getD (Int.toNat b1) default)).bind fun (r1 : Bool) =>
    (bif r1 then
    (some (Lp.ret b1))
    else
    (grd (InI64 (b1 + 1)) <|
    indexOff_l1 s n (b1 + 1))))
    else
    (some (Lp.done ())))
def indexOff (fuel : Nat) (s : List Int) : Option Int :=
(indexOff_l1 s fuel 0).bind fun lr1 => lr1.go fun x1 => indexOff_k1 x1
set_option maxRecDepth 100000 in
set_option maxHeartbeats 4000000 in
theorem indexOff_ok (fuel : Nat) (s : List Int) (W : World) (A0 : Option Addr) (c0 : Nat) (h0 : s.length ≤ c0) (s0 : SlAt W A0 s.length 1 fun i => [.int .i64 (s.getD i default)]) (res : Int) (h : indexOff fuel s = some res) :
    Calls Go.Proofs.Try.prog 68 #[.slice A0 s.length c0, .func (.func 60) #[] #[]] W fun e w' => e = .returned (.int .i64 res) ∧ Below W.heap.size W w' := by
  refine sym_call (f := 68) (fn := Go.Proofs.Try.f68) (c := Go.Proofs.Try.f68.body.get rfl) Go.Proofs.Try.func68 rfl [.sl 0, .v (.func (.func 60) #[] #[])] (indexOff_R s) [] (envOf [(0, ⟨A0, s.length, c0, 1⟩)]) allR (fun _ _ => rfl) (by kernel_rfl) (envOf_one trivial) ⟨s0.rd h0, trivial⟩ (AllRR.all _ _) trivial fun E a w S => ?_
  rw [indexOff] at h
  refine sym_seq lay_ok mixed [] [0, 1] [] (⟨[(0, .sl 0), (1, .v (.func (.func 60) #[] #[]))], ⟨[], (indexOff_R s), []⟩⟩) [] S (by kernel_rfl) (by kernel_rfl) (by kernel_rfl) trivial ?_
  clear S; intro E a w S
  refine wp_seq ?_
  refine sym_seq lay_ok mixed [] [0, 1, 7, 8] [] (⟨[(0, .sl 0), (1, .v (.func (.func 60) #[] #[])), (7, .v (.int .i64 ((s.length : Nat) : Int))), (8, .v (.int .i64 0))], ⟨[], (indexOff_R s), []⟩⟩) [] S (by kernel_rfl) (by kernel_rfl) (by kernel_rfl) trivial ?_
  clear S; intro E a w S
  obtain ⟨lr1, e1, hp1⟩ := bind_some h
  clear h
  refine sym_block_last (G := fun a w => ∃ E, ∃ x1 : Unit, indexOff_k1 x1 = some res ∧ St ⟨W, noC, Go.Proofs.Try.f68.ntmps, [], allR, noρ, (envOf [(0, ⟨A0, s.length, c0, 1⟩)]).sl, (envOf [(0, ⟨A0, s.length, c0, 1⟩)]).x⟩ (⟨[], ⟨[], (indexOff_R s), []⟩⟩) E a w) ?_ ?_
  · refine wp_loop_rounds fuel ?_
    refine sym_rounds (F := fun n b1 => indexOff_l1 s n b1 = some lr1) (H := fun b1 => ⟨[(0, .sl 0), (1, .v (.func (.func 60) #[] #[])), (7, .v (.int .i64 ((s.length : Nat) : Int))), (8, .v (.int .i64 b1))], ⟨[], (indexOff_R s), []⟩⟩) 0 (fun b hb => by have hb : none = some lr1 := hb; cases hb) ?_ _ _ _ _ e1 (St.cast (P := Go.Proofs.Try.prog) [] [] [0, 1, 7, 8] [] [0] _ [] (by kernel_rfl) trivial S)
    clear e1 S
    intro n b1 E a w h ih S
    rw [indexOff_l1] at h
    refine sym_seq lay_ok mixed [] [0, 1, 7, 8, 9] [] (⟨[(0, .sl 0), (1, .v (.func (.func 60) #[] #[])), (7, .v (.int .i64 ((s.length : Nat) : Int))), (8, .v (.int .i64 b1)), (9, .v (.bool (decide (b1 < ((s.length : Nat) : Int)))))], ⟨[], (indexOff_R s), []⟩⟩) [] S (by kernel_rfl) (by kernel_rfl) (by kernel_rfl) trivial ?_
    clear S; intro E a w S
    refine sym_if (b := decide (b1 < ((s.length : Nat) : Int))) S rfl (fun hb1 => ?_) (fun hb1 => ?_)
    · have h := bif_t hb1 h
      refine wp_skip ?_
      refine out_then_normal ?_
      refine wp_seq ?_
      refine wp_block ?_
      refine sym_seq lay_ok mixed [] [0, 1, 7, 8, 5] [] (⟨[(0, .sl 0), (1, .v (.func (.func 60) #[] #[])), (7, .v (.int .i64 ((s.length : Nat) : Int))), (8, .v (.int .i64 b1)), (5, .v (.int .i64 b1))], ⟨[], (indexOff_R s), []⟩⟩) [] S (by kernel_rfl) (by kernel_rfl) (by kernel_rfl) trivial ?_
      clear S; intro E a w S
      obtain ⟨g1, h⟩ := grd_some h
      obtain ⟨r1, e2, h⟩ := bind_some h
      refine sym_seq lay_ok mixed [(5, { res := .v (.bool r1) })] [0, 1, 7, 8, 5, 16] [] (⟨[(0, .sl 0), (1, .v (.func (.func 60) #[] #[])), (7, .v (.int .i64 ((s.length : Nat) : Int))), (8, .v (.int .i64 b1)), (5, .v (.int .i64 b1)), (16, .v (.bool r1))], ⟨[], (indexOff_R s), []⟩⟩) [.idx b1 s.length, .idx b1 s.length, .call ⟨[], (indexOff_R s), []⟩ 60 [.v (.int .i64 (s.getD (Int.toNat b1) default))] (.v (.bool r1))] S (by kernel_rfl) (by kernel_rfl) (by kernel_rfl) ⟨g1, g1, ⟨enters_60, fun _ W _ hm => stream_validRoom_1_ok (s.getD (Int.toNat b1) default) W r1 e2⟩, trivial⟩ ?_
      clear S; intro E a w S
      refine sym_if_last (b := r1) S rfl (fun hb2 => ?_) (fun hb2 => ?_)
      · have h := bif_t hb2 h
        refine sym_seq lay_ok mixed [] [4] [] (⟨[(4, .v (.int .i64 b1))], ⟨[], (indexOff_R s), []⟩⟩) [] S (by kernel_rfl) (by kernel_rfl) (by kernel_rfl) trivial ?_
        clear S; intro E a w S
        refine wp_ret ?_
        refine out_block_ret ?_
        refine out_then_ret ?_
        refine out_then_ret ?_
        refine out_block_ret ?_
        refine out_then_ret ?_
        refine out_then_ret ?_
        have hr := Option.some.inj h
        subst hr
        have hr := Option.some.inj hp1
        subst hr
        exact sym_ret lay_ok [.v (.int .i64 b1)] (by kernel_rfl) rfl S ⟨rfl, S.below rfl⟩
      · have h := bif_f hb2 h
        refine wp_skip ?_
        refine out_block_normal ?_
        refine out_then_normal ?_
        obtain ⟨g2, h⟩ := grd_some h
        refine sym_last lay_ok mixed [] [0, 1, 7, 8] [] (⟨[(0, .sl 0), (1, .v (.func (.func 60) #[] #[])), (7, .v (.int .i64 ((s.length : Nat) : Int))), (8, .v (.int .i64 (b1 + 1)))], ⟨[], (indexOff_R s), []⟩⟩) [.rng .i64 (b1 + 1)] S (by kernel_rfl) (by kernel_rfl) (by kernel_rfl) ⟨rngI64 g2, trivial⟩ ?_
        clear S; intro E a w S
        refine out_then_normal ?_
        exact ih (b1 + 1) _ _ _ h (St.cast (P := Go.Proofs.Try.prog) [] [] [0, 1, 7, 8] [] [0] _ [] (by kernel_rfl) trivial S)
    · have h := bif_f hb1 h
      refine wp_exit ?_
      refine out_then_exit ?_
      refine out_then_exit ?_
      refine out_block_here ?_
      refine out_then_normal ?_
      have hr := Option.some.inj h
      subst hr
      exact ⟨_, (), hp1, St.cast (P := Go.Proofs.Try.prog) [] [] [] [] [0] _ [] (by kernel_rfl) trivial S⟩
  clear e1 S
  rintro a w ⟨E, x1, h, S⟩
  rw [indexOff_k1] at h
  refine out_then_normal ?_
  refine sym_seq lay_ok mixed [] [4] [] (⟨[(4, .v (.int .i64 (-1)))], ⟨[], (indexOff_R s), []⟩⟩) [] S (by kernel_rfl) (by kernel_rfl) (by kernel_rfl) trivial ?_
  clear S; intro E a w S
  refine wp_ret ?_
  have h := Option.some.inj h
  subst h
  exact sym_ret lay_ok [.v (.int .i64 (-1))] (by kernel_rfl) rfl S ⟨rfl, S.below rfl⟩
def anyOff_R (s : List Int) : List (Nat × Q) := [(0, ⟨s.length, 1, fun i => [.int .i64 (s.getD i default)]⟩)]
def anyOff (fuel : Nat) (s : List Int) : Option Bool :=
(indexOff fuel s).bind fun (r1 : Int) =>
some (decide (0 ≤ r1))
set_option maxRecDepth 100000 in
set_option maxHeartbeats 4000000 in
theorem anyOff_ok (fuel : Nat) (s : List Int) (W : World) (A0 : Option Addr) (c0 : Nat) (h0 : s.length ≤ c0) (s0 : SlAt W A0 s.length 1 fun i => [.int .i64 (s.getD i default)]) (res : Bool) (h : anyOff fuel s = some res) :
    Calls Go.Proofs.Try.prog 59 #[.slice A0 s.length c0, .func (.func 60) #[] #[]] W fun e w' => e = .returned (.bool res) ∧ Below W.heap.size W w' := by
  refine sym_call (f := 59) (fn := Go.Proofs.Try.f59) (c := Go.Proofs.Try.f59.body.get rfl) Go.Proofs.Try.func59 rfl [.sl 0, .v (.func (.func 60) #[] #[])] (anyOff_R s) [] (envOf [(0, ⟨A0, s.length, c0, 1⟩)]) allR (fun _ _ => rfl) (by kernel_rfl) (envOf_one trivial) ⟨s0.rd h0, trivial⟩ (AllRR.all _ _) trivial fun E a w S => ?_
  rw [anyOff] at h
  refine sym_seq lay_ok mixed [] [0, 1] [] (⟨[(0, .sl 0), (1, .v (.func (.func 60) #[] #[]))], ⟨[], (anyOff_R s), []⟩⟩) [] S (by kernel_rfl) (by kernel_rfl) (by kernel_rfl) trivial ?_
  clear S; intro E a w S
  obtain ⟨r1, e1, h⟩ := bind_some h
  refine sym_seq lay_ok mixed [(2, { res := .v (.int .i64 r1) })] [4] [] (⟨[(4, .v (.bool (decide (0 ≤ r1))))], ⟨[], (anyOff_R s), []⟩⟩) [.call ⟨[], (anyOff_R s), []⟩ 68 [.sl 0, .v (.func (.func 60) #[] #[])] (.v (.int .i64 r1))] S (by kernel_rfl) (by kernel_rfl) (by kernel_rfl) ⟨⟨enters_68, fun E W _ hm => by obtain ⟨A0, c0, q0, l0, s0, _⟩ := Mem.sl hm (s := 0) rfl; simp only [SV.vals, SV.val, q0]; exact indexOff_ok fuel s W A0 c0 l0 s0 r1 e1⟩, trivial⟩ ?_
  clear S; intro E a w S
  refine wp_ret ?_
  have h := Option.some.inj h
  subst h
  exact sym_ret lay_ok [.v (.bool (decide (0 ≤ r1)))] (by kernel_rfl) rfl S ⟨rfl, S.below rfl⟩
def stream_validRoom_R (room : List Int) : List (Nat × Q) := [(0, ⟨room.length, 1, fun i => [.int .i64 (room.getD i default)]⟩)]
def stream_validRoom (fuel : Nat) (room : List Int) : Option Bool :=
((bif (decide (((room.length : Nat) : Int) ≤ 168)) then anyOff fuel room else some default)).bind fun (r1 : Bool) =>
some (decide (((room.length : Nat) : Int) ≤ 168) && (!r1))
set_option maxRecDepth 100000 in
set_option maxHeartbeats 4000000 in
theorem stream_validRoom_ok (fuel : Nat) (room : List Int) (W : World) (A0 : Option Addr) (c0 : Nat) (h0 : room.length ≤ c0) (s0 : SlAt W A0 room.length 1 fun i => [.int .i64 (room.getD i default)]) (res : Bool) (h : stream_validRoom fuel room = some res) :
    Calls Go.Proofs.Try.prog 47 #[.slice A0 room.length c0] W fun e w' => e = .returned (.bool res) ∧ Below W.heap.size W w' := by
  refine sym_call (f := 47) (fn := Go.Proofs.Try.f47) (c := Go.Proofs.Try.f47.body.get rfl) Go.Proofs.Try.func47 rfl [.sl 0] (stream_validRoom_R room) [] (envOf [(0, ⟨A0, room.length, c0, 1⟩)]) allR (fun _ _ => rfl) (by kernel_rfl) (envOf_one trivial) ⟨s0.rd h0, trivial⟩ (AllRR.all _ _) trivial fun E a w S => ?_
  rw [stream_validRoom] at h
  refine sym_seq lay_ok mixed [] [0] [] (⟨[(0, .sl 0)], ⟨[], (stream_validRoom_R room), []⟩⟩) [] S (by kernel_rfl) (by kernel_rfl) (by kernel_rfl) trivial ?_
  clear S; intro E a w S
  obtain ⟨r1, e1, h⟩ := bind_some h
  refine sym_seq lay_ok mixed [(4, { og := true }), (5, { og := true, res := .v (.bool r1) }), (6, { og := true }), (7, { pk := true })] [2] [] (⟨[(2, .v (.bool (decide (((room.length : Nat) : Int) ≤ 168) && (!r1))))], ⟨[], (stream_validRoom_R room), []⟩⟩) [.imp (decide (((room.length : Nat) : Int) ≤ 168)) (decide (((room.length : Nat) : Int) ≤ 168)), .when (decide (((room.length : Nat) : Int) ≤ 168)) (.call ⟨[], (stream_validRoom_R room), []⟩ 59 [.sl 0, .v (.func (.func 60) #[] #[])] (.v (.bool r1))), .imp (decide (((room.length : Nat) : Int) ≤ 168)) (decide (((room.length : Nat) : Int) ≤ 168)), .imp (decide (((room.length : Nat) : Int) ≤ 168)) (decide (((room.length : Nat) : Int) ≤ 168))] S (by kernel_rfl) (by kernel_rfl) (by kernel_rfl) ⟨fun h => h, fun hW => ⟨enters_59, fun E W _ hm => by obtain ⟨A0, c0, q0, l0, s0, _⟩ := Mem.sl hm (s := 0) rfl; simp only [SV.vals, SV.val, q0]; exact anyOff_ok fuel room W A0 c0 l0 s0 r1 (bif_t hW e1)⟩, fun h => h, fun h => h, trivial⟩ ?_
  clear S; intro E a w S
  refine wp_ret ?_
  have h := Option.some.inj h
  subst h
  exact sym_ret lay_ok [.v (.bool (decide (((room.length : Nat) : Int) ≤ 168) && (!r1)))] (by kernel_rfl) rfl S ⟨rfl, S.below rfl⟩
def stream_hours_start_k1  (x1 : Unit) : Option (Int × Bool) :=
some (0, false)
def stream_hours_start_l1 (free : List Int) (b : MBurner) (by' : Int) : Nat → (Int × Int) → Option (Lp Unit (Int × Bool))
  | 0, _ => none
  | n + 1, b1 =>
    (bif decide (b1.2 < (min b.due by')) then
    (grd (((0 : Int) ≤ b1.2 ∧ (b1.2 : Int) < 168)) <|
    (bif decide ((free.getD (Int.toNat b1.2) 0) < b.heat) then
    (grd (InI64 (b1.2 + 1)) <|
    grd (InI64 (b1.2 + 1)) <|
    stream_hours_start_l1 free b by' n ((b1.2 + 1), (b1.2 + 1)))
    else
    (grd (InI64 (b1.2 - b1.1) ∧ InI64 ((b1.2 - b1.1) + 1)) <|
    (bif (((b1.2 - b1.1) + 1) == b.hours) then
    (some (Lp.ret (b1.1, true)))
    else
    (grd (InI64 (b1.2 + 1)) <|
    stream_hours_start_l1 free b by' n (b1.1, (b1.2 + 1)))))))
    else
    (some (Lp.done ())))
def stream_hours_start (fuel : Nat) (free : List Int) (b : MBurner) (from' : Int) (by' : Int) : Option (Int × Bool) :=
(stream_hours_start_l1 free b by' fuel (from', from')).bind fun lr1 => lr1.go fun x1 => stream_hours_start_k1 x1
set_option maxRecDepth 100000 in
set_option maxHeartbeats 4000000 in
theorem stream_hours_start_ok (fuel : Nat) (free : List Int) (b : MBurner) (from' : Int) (by' : Int) (W : World)  (res : Int × Bool) (h : stream_hours_start fuel free b from' by' = some res) :
    Calls Go.Proofs.Try.prog 62 #[.agg (arrV free), .agg #[.int .i64 b.ready, .int .i64 b.due, .int .i64 b.hours, .int .i64 b.heat], .int .i64 from', .int .i64 by'] W fun e w' => e = .returned (.tuple #[.int .i64 res.1, .bool res.2]) ∧ Below W.heap.size W w' := by
  rw [← arr_valsA (envOf []) free]
  refine sym_call (f := 62) (fn := Go.Proofs.Try.f62) (c := Go.Proofs.Try.f62.body.get rfl) Go.Proofs.Try.func62 rfl [.agg (arrSV free), .agg [.v (.int .i64 b.ready), .v (.int .i64 b.due), .v (.int .i64 b.hours), .v (.int .i64 b.heat)], .v (.int .i64 from'), .v (.int .i64 by')] [] [] (envOf []) allR (fun _ _ => rfl) (by kernel_rfl) (envOf_one trivial) trivial (AllRR.all _ _) trivial fun E a w S => ?_
  rw [stream_hours_start] at h
  refine sym_seq lay_ok mixed [(0, { g := 0 }), (1, { g := 1 })] [2, 3, 4, 5] [0, 1] (⟨[(2, .v (.int .i64 from')), (3, .v (.int .i64 by')), (4, .own 0 0), (5, .own 1 0)], ⟨[(0, .blk 85 (arrSV free)), (1, .blk 67 [.v (.int .i64 b.ready), .v (.int .i64 b.due), .v (.int .i64 b.hours), .v (.int .i64 b.heat)])], [], []⟩⟩) [] S (by kernel_rfl) (by kernel_rfl) (by kernel_rfl) trivial ?_
  clear S; intro E a w S
  refine sym_seq lay_ok mixed [] [2, 3, 4, 5, 8] [0, 1] (⟨[(2, .v (.int .i64 from')), (3, .v (.int .i64 by')), (4, .own 0 0), (5, .own 1 0), (8, .v (.int .i64 from'))], ⟨[(0, .blk 85 (arrSV free)), (1, .blk 67 [.v (.int .i64 b.ready), .v (.int .i64 b.due), .v (.int .i64 b.hours), .v (.int .i64 b.heat)])], [], []⟩⟩) [] S (by kernel_rfl) (by kernel_rfl) (by kernel_rfl) trivial ?_
  clear S; intro E a w S
  refine wp_seq ?_
  refine sym_seq lay_ok mixed [] [3, 4, 5, 8, 10] [0, 1] (⟨[(3, .v (.int .i64 by')), (4, .own 0 0), (5, .own 1 0), (8, .v (.int .i64 from')), (10, .v (.int .i64 from'))], ⟨[(0, .blk 85 (arrSV free)), (1, .blk 67 [.v (.int .i64 b.ready), .v (.int .i64 b.due), .v (.int .i64 b.hours), .v (.int .i64 b.heat)])], [], []⟩⟩) [] S (by kernel_rfl) (by kernel_rfl) (by kernel_rfl) trivial ?_
  clear S; intro E a w S
  obtain ⟨lr1, e1, hp1⟩ := bind_some h
  clear h
  refine sym_block_last (G := fun a w => ∃ E, ∃ x1 : Unit, stream_hours_start_k1 x1 = some res ∧ St ⟨W, noC, Go.Proofs.Try.f62.ntmps, [], allR, noρ, (envOf []).sl, (envOf []).x⟩ (⟨[], ⟨[], [], []⟩⟩) E a w) ?_ ?_
  · refine wp_loop_rounds fuel ?_
    refine sym_rounds (F := fun n b1 => stream_hours_start_l1 free b by' n b1 = some lr1) (H := fun b1 => ⟨[(3, .v (.int .i64 by')), (4, .own 0 0), (5, .own 1 0), (8, .v (.int .i64 b1.1)), (10, .v (.int .i64 b1.2))], ⟨[(0, .blk 85 (arrSV free)), (1, .blk 67 [.v (.int .i64 b.ready), .v (.int .i64 b.due), .v (.int .i64 b.hours), .v (.int .i64 b.heat)])], [], []⟩⟩) (from', from') (fun b hb => by have hb : none = some lr1 := hb; cases hb) ?_ _ _ _ _ e1 (St.cast (P := Go.Proofs.Try.prog) [] [] [3, 4, 5, 8, 10] [0, 1] [] _ [] (by kernel_rfl) trivial S)
    clear e1 S
    intro n b1 E a w h ih S
    rw [stream_hours_start_l1] at h
    refine wp_seq ?_
    refine sym_seq lay_ok mixed [] [3, 4, 5, 8, 10, 18] [0, 1] (⟨[(3, .v (.int .i64 by')), (4, .own 0 0), (5, .own 1 0), (8, .v (.int .i64 b1.1)), (10, .v (.int .i64 b1.2)), (18, .v (.bool (decide (b1.2 < (min b.due by')))))], ⟨[(0, .blk 85 (arrSV free)), (1, .blk 67 [.v (.int .i64 b.ready), .v (.int .i64 b.due), .v (.int .i64 b.hours), .v (.int .i64 b.heat)])], [], []⟩⟩) [] S (by kernel_rfl) (by kernel_rfl) (by kernel_rfl) trivial ?_
    clear S; intro E a w S
    refine sym_if_last (b := decide (b1.2 < (min b.due by'))) S rfl (fun hb1 => ?_) (fun hb1 => ?_)
    · have h := bif_t hb1 h
      refine wp_skip ?_
      refine out_then_normal ?_
      refine wp_seq ?_
      refine wp_block ?_
      obtain ⟨g1, h⟩ := grd_some h
      refine sym_seq lay_ok mixed [(1, { px := some (.own 0 (Int.toNat b1.2)) }), (2, { fp := [0], px := some (.v (.int .i64 (free.getD (Int.toNat b1.2) 0))) })] [3, 4, 5, 8, 10, 26] [0, 1] (⟨[(3, .v (.int .i64 by')), (4, .own 0 0), (5, .own 1 0), (8, .v (.int .i64 b1.1)), (10, .v (.int .i64 b1.2)), (26, .v (.bool (decide ((free.getD (Int.toNat b1.2) 0) < b.heat))))], ⟨[(0, .blk 85 (arrSV free)), (1, .blk 67 [.v (.int .i64 b.ready), .v (.int .i64 b.due), .v (.int .i64 b.hours), .v (.int .i64 b.heat)])], [], []⟩⟩) [.pure ⟨[], [], []⟩ (.indexAddr 85 (.tmp 4) (.tmp 21)) [.own 0 0, .v (.int .i64 b1.2)] (.own 0 (Int.toNat b1.2)), .pure ⟨[(0, .blk 85 (arrSV free))], [], []⟩ (.load 3 (.tmp 22)) [.own 0 (Int.toNat b1.2)] (.v (.int .i64 (free.getD (Int.toNat b1.2) 0)))] S (by kernel_rfl) (by kernel_rfl) (by kernel_rfl) ⟨pure_idx lay_ok rfl g1, pure_ldIdx lay_ok rfl rfl rfl rfl g1, trivial⟩ ?_
      clear S; intro E a w S
      refine sym_if_last (b := decide ((free.getD (Int.toNat b1.2) 0) < b.heat)) S rfl (fun hb2 => ?_) (fun hb2 => ?_)
      · have h := bif_t hb2 h
        obtain ⟨g2, h⟩ := grd_some h
        refine sym_last lay_ok mixed [] [3, 4, 5, 8, 10] [0, 1] (⟨[(3, .v (.int .i64 by')), (4, .own 0 0), (5, .own 1 0), (8, .v (.int .i64 (b1.2 + 1))), (10, .v (.int .i64 b1.2))], ⟨[(0, .blk 85 (arrSV free)), (1, .blk 67 [.v (.int .i64 b.ready), .v (.int .i64 b.due), .v (.int .i64 b.hours), .v (.int .i64 b.heat)])], [], []⟩⟩) [.rng .i64 (b1.2 + 1)] S (by kernel_rfl) (by kernel_rfl) (by kernel_rfl) ⟨rngI64 g2, trivial⟩ ?_
        clear S; intro E a w S
        refine out_block_normal ?_
        refine out_then_normal ?_
        obtain ⟨g3, h⟩ := grd_some h
        refine sym_last lay_ok mixed [] [3, 4, 5, 8, 10] [0, 1] (⟨[(3, .v (.int .i64 by')), (4, .own 0 0), (5, .own 1 0), (8, .v (.int .i64 (b1.2 + 1))), (10, .v (.int .i64 (b1.2 + 1)))], ⟨[(0, .blk 85 (arrSV free)), (1, .blk 67 [.v (.int .i64 b.ready), .v (.int .i64 b.due), .v (.int .i64 b.hours), .v (.int .i64 b.heat)])], [], []⟩⟩) [.rng .i64 (b1.2 + 1)] S (by kernel_rfl) (by kernel_rfl) (by kernel_rfl) ⟨rngI64 g3, trivial⟩ ?_
        clear S; intro E a w S
        refine out_then_normal ?_
        exact ih ((b1.2 + 1), (b1.2 + 1)) _ _ _ h (St.cast (P := Go.Proofs.Try.prog) [] [] [3, 4, 5, 8, 10] [0, 1] [] _ [] (by kernel_rfl) trivial S)
      · have h := bif_f hb2 h
        obtain ⟨⟨g4, g5⟩, h⟩ := grd_some h
        refine sym_seq lay_ok mixed [] [3, 4, 5, 8, 10, 35] [0, 1] (⟨[(3, .v (.int .i64 by')), (4, .own 0 0), (5, .own 1 0), (8, .v (.int .i64 b1.1)), (10, .v (.int .i64 b1.2)), (35, .v (.bool (((b1.2 - b1.1) + 1) == b.hours)))], ⟨[(0, .blk 85 (arrSV free)), (1, .blk 67 [.v (.int .i64 b.ready), .v (.int .i64 b.due), .v (.int .i64 b.hours), .v (.int .i64 b.heat)])], [], []⟩⟩) [.rng .i64 (b1.2 - b1.1), .rng .i64 ((b1.2 - b1.1) + 1)] S (by kernel_rfl) (by kernel_rfl) (by kernel_rfl) ⟨rngI64 g4, rngI64 g5, trivial⟩ ?_
        clear S; intro E a w S
        refine sym_if_last (b := (((b1.2 - b1.1) + 1) == b.hours)) S rfl (fun hb3 => ?_) (fun hb3 => ?_)
        · have h := bif_t hb3 h
          refine sym_seq lay_ok mixed [] [8, 9] [] (⟨[(8, .v (.int .i64 b1.1)), (9, .v (.bool true))], ⟨[], [], []⟩⟩) [] S (by kernel_rfl) (by kernel_rfl) (by kernel_rfl) trivial ?_
          clear S; intro E a w S
          refine wp_ret ?_
          refine out_block_ret ?_
          refine out_then_ret ?_
          refine out_then_ret ?_
          refine out_block_ret ?_
          refine out_then_ret ?_
          refine out_then_ret ?_
          have hr := Option.some.inj h
          subst hr
          have hr := Option.some.inj hp1
          subst hr
          exact sym_ret lay_ok [.v (.int .i64 b1.1), .v (.bool true)] (by kernel_rfl) rfl S ⟨rfl, S.below rfl⟩
        · have h := bif_f hb3 h
          refine wp_skip ?_
          refine out_block_normal ?_
          refine out_then_normal ?_
          obtain ⟨g6, h⟩ := grd_some h
          refine sym_last lay_ok mixed [] [3, 4, 5, 8, 10] [0, 1] (⟨[(3, .v (.int .i64 by')), (4, .own 0 0), (5, .own 1 0), (8, .v (.int .i64 b1.1)), (10, .v (.int .i64 (b1.2 + 1)))], ⟨[(0, .blk 85 (arrSV free)), (1, .blk 67 [.v (.int .i64 b.ready), .v (.int .i64 b.due), .v (.int .i64 b.hours), .v (.int .i64 b.heat)])], [], []⟩⟩) [.rng .i64 (b1.2 + 1)] S (by kernel_rfl) (by kernel_rfl) (by kernel_rfl) ⟨rngI64 g6, trivial⟩ ?_
          clear S; intro E a w S
          refine out_then_normal ?_
          exact ih (b1.1, (b1.2 + 1)) _ _ _ h (St.cast (P := Go.Proofs.Try.prog) [] [] [3, 4, 5, 8, 10] [0, 1] [] _ [] (by kernel_rfl) trivial S)
    · have h := bif_f hb1 h
      refine wp_exit ?_
      refine out_then_exit ?_
      refine out_then_exit ?_
      refine out_block_here ?_
      refine out_then_normal ?_
      have hr := Option.some.inj h
      subst hr
      exact ⟨_, (), hp1, St.cast (P := Go.Proofs.Try.prog) [] [] [] [] [] _ [] (by kernel_rfl) trivial S⟩
  clear e1 S
  rintro a w ⟨E, x1, h, S⟩
  rw [stream_hours_start_k1] at h
  refine out_then_normal ?_
  refine sym_seq lay_ok mixed [] [8, 9] [] (⟨[(8, .v (.int .i64 0)), (9, .v (.bool false))], ⟨[], [], []⟩⟩) [] S (by kernel_rfl) (by kernel_rfl) (by kernel_rfl) trivial ?_
  clear S; intro E a w S
  refine wp_ret ?_
  have h := Option.some.inj h
  subst h
  exact sym_ret lay_ok [.v (.int .i64 0), .v (.bool false)] (by kernel_rfl) rfl S ⟨rfl, S.below rfl⟩
def stream_hours_without_k1  (x1 : List Int) : Option (List Int) :=
some x1
def stream_hours_without_l1 (b : MBurner) (start : Int) : Nat → (Int × List Int) → Option (Lp (List Int) (List Int))
  | 0, _ => none
  | n + 1, b1 =>
    (bif decide (b1.1 < b.hours) then
    (grd (InI64 (start + b1.1) ∧ ((0 : Int) ≤ (start + b1.1) ∧ ((start + b1.1) : Int) < 168) ∧ InI64 ((b1.2.getD (Int.toNat (start + b1.1)) 0) - b.heat) ∧ ((0 : Int) ≤ (start + b1.1) ∧ ((start + b1.1) : Int) < 168)) <|
    grd (InI64 (b1.1 + 1)) <|
    stream_hours_without_l1 b start n ((b1.1 + 1), (arrUp b1.2 (Int.toNat (start + b1.1)) ((b1.2.getD (Int.toNat (start + b1.1)) 0) - b.heat))))
    else
    (some (Lp.done b1.2)))
def stream_hours_without (fuel : Nat) (free : List Int) (b : MBurner) (start : Int) : Option (List Int) :=
(stream_hours_without_l1 b start fuel (0, free)).bind fun lr1 => lr1.go fun x1 => stream_hours_without_k1 x1
set_option maxRecDepth 100000 in
set_option maxHeartbeats 4000000 in
theorem stream_hours_without_ok (fuel : Nat) (free : List Int) (b : MBurner) (start : Int) (W : World)  (res : List Int) (h : stream_hours_without fuel free b start = some res) :
    Calls Go.Proofs.Try.prog 63 #[.agg (arrV free), .agg #[.int .i64 b.ready, .int .i64 b.due, .int .i64 b.hours, .int .i64 b.heat], .int .i64 start] W fun e w' => e = .returned (.agg (arrV res)) ∧ Below W.heap.size W w' := by
  rw [← arr_valsA (envOf []) free]
  refine sym_call (f := 63) (fn := Go.Proofs.Try.f63) (c := Go.Proofs.Try.f63.body.get rfl) Go.Proofs.Try.func63 rfl [.agg (arrSV free), .agg [.v (.int .i64 b.ready), .v (.int .i64 b.due), .v (.int .i64 b.hours), .v (.int .i64 b.heat)], .v (.int .i64 start)] [] [] (envOf []) allR (fun _ _ => rfl) (by kernel_rfl) (envOf_one trivial) trivial (AllRR.all _ _) trivial fun E a w S => ?_
  rw [stream_hours_without] at h
  refine sym_seq lay_ok mixed [(0, { g := 0 }), (1, { g := 1 }), (2, { g := 2 })] [2, 3, 4, 6] [0, 1, 2] (⟨[(2, .v (.int .i64 start)), (3, .own 0 0), (4, .own 1 0), (6, .own 2 0)], ⟨[(0, .blk 85 (arrSV free)), (1, .blk 67 [.v (.int .i64 b.ready), .v (.int .i64 b.due), .v (.int .i64 b.hours), .v (.int .i64 b.heat)]), (2, .blk 85 (arrSV (List.replicate 168 0)))], [], []⟩⟩) [] S (by kernel_rfl) (by kernel_rfl) (by kernel_rfl) trivial ?_
  clear S; intro E a w S
  refine wp_seq ?_
  refine sym_seq lay_ok mixed [] [2, 3, 4, 6, 9, 10] [0, 1, 2] (⟨[(2, .v (.int .i64 start)), (3, .own 0 0), (4, .own 1 0), (6, .own 2 0), (9, .v (.int .i64 b.hours)), (10, .v (.int .i64 0))], ⟨[(0, .blk 85 (arrSV free)), (1, .blk 67 [.v (.int .i64 b.ready), .v (.int .i64 b.due), .v (.int .i64 b.hours), .v (.int .i64 b.heat)]), (2, .blk 85 (arrSV (List.replicate 168 0)))], [], []⟩⟩) [] S (by kernel_rfl) (by kernel_rfl) (by kernel_rfl) trivial ?_
  clear S; intro E a w S
  obtain ⟨lr1, e1, hp1⟩ := bind_some h
  clear h
  refine sym_block_last (G := fun a w => ∃ E, ∃ x1 : List Int, stream_hours_without_k1 x1 = some res ∧ St ⟨W, noC, Go.Proofs.Try.f63.ntmps, [], allR, noρ, (envOf []).sl, (envOf []).x⟩ (⟨[(3, .own 0 0), (6, .own 2 0)], ⟨[(0, .blk 85 (arrSV x1)), (2, .blk 85 (arrSV (List.replicate 168 0)))], [], []⟩⟩) E a w) ?_ ?_
  · refine wp_loop_rounds fuel ?_
    refine sym_rounds (F := fun n b1 => stream_hours_without_l1 b start n b1 = some lr1) (H := fun b1 => ⟨[(2, .v (.int .i64 start)), (3, .own 0 0), (4, .own 1 0), (6, .own 2 0), (9, .v (.int .i64 b.hours)), (10, .v (.int .i64 b1.1))], ⟨[(0, .blk 85 (arrSV b1.2)), (1, .blk 67 [.v (.int .i64 b.ready), .v (.int .i64 b.due), .v (.int .i64 b.hours), .v (.int .i64 b.heat)]), (2, .blk 85 (arrSV (List.replicate 168 0)))], [], []⟩⟩) (0, free) (fun b hb => by have hb : none = some lr1 := hb; cases hb) ?_ _ _ _ _ e1 (St.cast (P := Go.Proofs.Try.prog) [] [] [2, 3, 4, 6, 9, 10] [0, 1, 2] [] _ [] (by kernel_rfl) trivial S)
    clear e1 S
    intro n b1 E a w h ih S
    rw [stream_hours_without_l1] at h
    refine sym_seq lay_ok mixed [] [2, 3, 4, 6, 9, 10, 11] [0, 1, 2] (⟨[(2, .v (.int .i64 start)), (3, .own 0 0), (4, .own 1 0), (6, .own 2 0), (9, .v (.int .i64 b.hours)), (10, .v (.int .i64 b1.1)), (11, .v (.bool (decide (b1.1 < b.hours))))], ⟨[(0, .blk 85 (arrSV b1.2)), (1, .blk 67 [.v (.int .i64 b.ready), .v (.int .i64 b.due), .v (.int .i64 b.hours), .v (.int .i64 b.heat)]), (2, .blk 85 (arrSV (List.replicate 168 0)))], [], []⟩⟩) [] S (by kernel_rfl) (by kernel_rfl) (by kernel_rfl) trivial ?_
    clear S; intro E a w S
    refine sym_if (b := decide (b1.1 < b.hours)) S rfl (fun hb1 => ?_) (fun hb1 => ?_)
    · have h := bif_t hb1 h
      refine wp_skip ?_
      refine out_then_normal ?_
      refine wp_seq ?_
      refine wp_block ?_
      refine sym_seq lay_ok mixed [] [2, 3, 4, 6, 9, 10, 7] [0, 1, 2] (⟨[(2, .v (.int .i64 start)), (3, .own 0 0), (4, .own 1 0), (6, .own 2 0), (9, .v (.int .i64 b.hours)), (10, .v (.int .i64 b1.1)), (7, .v (.int .i64 b1.1))], ⟨[(0, .blk 85 (arrSV b1.2)), (1, .blk 67 [.v (.int .i64 b.ready), .v (.int .i64 b.due), .v (.int .i64 b.hours), .v (.int .i64 b.heat)]), (2, .blk 85 (arrSV (List.replicate 168 0)))], [], []⟩⟩) [] S (by kernel_rfl) (by kernel_rfl) (by kernel_rfl) trivial ?_
      clear S; intro E a w S
      obtain ⟨⟨g1, g2, g3, g4⟩, h⟩ := grd_some h
      refine sym_region_cutP lay_ok mixed [(3, { px := some (.own 0 (Int.toNat (start + b1.1))) }), (4, { fp := [0], px := some (.v (.int .i64 (b1.2.getD (Int.toNat (start + b1.1)) 0))) }), (8, { px := some (.own 0 (Int.toNat (start + b1.1))) })] 9 [2, 3, 4, 6, 9, 10, 20, 21] [0, 1, 2] (⟨[(2, .v (.int .i64 start)), (3, .own 0 0), (4, .own 1 0), (6, .own 2 0), (9, .v (.int .i64 b.hours)), (10, .v (.int .i64 b1.1)), (20, .v (.int .i64 ((b1.2.getD (Int.toNat (start + b1.1)) 0) - b.heat))), (21, .own 0 (Int.toNat (start + b1.1)))], ⟨[(0, .blk 85 (arrSV b1.2)), (1, .blk 67 [.v (.int .i64 b.ready), .v (.int .i64 b.due), .v (.int .i64 b.hours), .v (.int .i64 b.heat)]), (2, .blk 85 (arrSV (List.replicate 168 0)))], [], []⟩⟩) [.rng .i64 (start + b1.1), .pure ⟨[], [], []⟩ (.indexAddr 85 (.tmp 3) (.tmp 15)) [.own 0 0, .v (.int .i64 (start + b1.1))] (.own 0 (Int.toNat (start + b1.1))), .pure ⟨[(0, .blk 85 (arrSV b1.2))], [], []⟩ (.load 3 (.tmp 16)) [.own 0 (Int.toNat (start + b1.1))] (.v (.int .i64 (b1.2.getD (Int.toNat (start + b1.1)) 0))), .rng .i64 ((b1.2.getD (Int.toNat (start + b1.1)) 0) - b.heat), .pure ⟨[], [], []⟩ (.indexAddr 85 (.tmp 3) (.tmp 15)) [.own 0 0, .v (.int .i64 (start + b1.1))] (.own 0 (Int.toNat (start + b1.1)))] S (by kernel_rfl) (by kernel_rfl) (by kernel_rfl) ⟨rngI64 g1, pure_idx lay_ok rfl g2, pure_ldIdx lay_ok rfl rfl rfl rfl g2, rngI64 g3, pure_idx lay_ok rfl g4, trivial⟩ (by intro c d v a w h; cases d <;> exact h) ?_
      clear S; intro E a w S
      refine sym_storeArr lay_ok rfl (.tmp 21) (.tmp 20) 3 rfl rfl rfl S 0 85 (start + b1.1) b1.2 ((b1.2.getD (Int.toNat (start + b1.1)) 0) - b.heat) ⟨.int .i64, 1, [.int .i64 0], false, 8⟩ rfl rfl rfl rfl rfl g4 ?_
      clear S; intro a w S; have S := St.pickG S [2, 3, 4, 6, 9, 10] [0, 1, 2] [] (⟨[(2, .v (.int .i64 start)), (3, .own 0 0), (4, .own 1 0), (6, .own 2 0), (9, .v (.int .i64 b.hours)), (10, .v (.int .i64 b1.1))], ⟨[(0, .blk 85 (arrSV (arrUp b1.2 (Int.toNat (start + b1.1)) ((b1.2.getD (Int.toNat (start + b1.1)) 0) - b.heat)))), (1, .blk 67 [.v (.int .i64 b.ready), .v (.int .i64 b.due), .v (.int .i64 b.hours), .v (.int .i64 b.heat)]), (2, .blk 85 (arrSV (List.replicate 168 0)))], [], []⟩⟩) (by kernel_rfl)
      refine sym_done rfl ?_
      have S := St.pickG S [2, 3, 4, 6, 9, 10] [0, 1, 2] [] (⟨[(2, .v (.int .i64 start)), (3, .own 0 0), (4, .own 1 0), (6, .own 2 0), (9, .v (.int .i64 b.hours)), (10, .v (.int .i64 b1.1))], ⟨[(0, .blk 85 (arrSV (arrUp b1.2 (Int.toNat (start + b1.1)) ((b1.2.getD (Int.toNat (start + b1.1)) 0) - b.heat)))), (1, .blk 67 [.v (.int .i64 b.ready), .v (.int .i64 b.due), .v (.int .i64 b.hours), .v (.int .i64 b.heat)]), (2, .blk 85 (arrSV (List.replicate 168 0)))], [], []⟩⟩) (by kernel_rfl)
      refine out_block_normal ?_
      refine out_then_normal ?_
      obtain ⟨g5, h⟩ := grd_some h
      refine sym_last lay_ok mixed [] [2, 3, 4, 6, 9, 10] [0, 1, 2] (⟨[(2, .v (.int .i64 start)), (3, .own 0 0), (4, .own 1 0), (6, .own 2 0), (9, .v (.int .i64 b.hours)), (10, .v (.int .i64 (b1.1 + 1)))], ⟨[(0, .blk 85 (arrSV (arrUp b1.2 (Int.toNat (start + b1.1)) ((b1.2.getD (Int.toNat (start + b1.1)) 0) - b.heat)))), (1, .blk 67 [.v (.int .i64 b.ready), .v (.int .i64 b.due), .v (.int .i64 b.hours), .v (.int .i64 b.heat)]), (2, .blk 85 (arrSV (List.replicate 168 0)))], [], []⟩⟩) [.rng .i64 (b1.1 + 1)] S (by kernel_rfl) (by kernel_rfl) (by kernel_rfl) ⟨rngI64 g5, trivial⟩ ?_
      clear S; intro E a w S
      refine out_then_normal ?_
      exact ih ((b1.1 + 1), (arrUp b1.2 (Int.toNat (start + b1.1)) ((b1.2.getD (Int.toNat (start + b1.1)) 0) - b.heat))) _ _ _ h (St.cast (P := Go.Proofs.Try.prog) [] [] [2, 3, 4, 6, 9, 10] [0, 1, 2] [] _ [] (by kernel_rfl) trivial S)
    · have h := bif_f hb1 h
      refine wp_exit ?_
      refine out_then_exit ?_
      refine out_then_exit ?_
      refine out_block_here ?_
      refine out_then_normal ?_
      have hr := Option.some.inj h
      subst hr
      exact ⟨_, b1.2, hp1, St.cast (P := Go.Proofs.Try.prog) [] [] [3, 6] [0, 2] [] _ [] (by kernel_rfl) trivial S⟩
  clear e1 S
  rintro a w ⟨E, x1, h, S⟩
  rw [stream_hours_without_k1] at h
  refine out_then_normal ?_
  refine sym_seq lay_ok mixed [] [6] [2] (⟨[(6, .own 2 0)], ⟨[(2, .blk 85 (arrSV x1))], [], []⟩⟩) [] S (by kernel_rfl) (by kernel_rfl) (by kernel_rfl) trivial ?_
  clear S; intro E a w S
  refine wp_ret ?_
  have h := Option.some.inj h
  subst h
  exact sym_ret lay_ok [.agg (arrSV x1)] (by kernel_rfl) rfl S ⟨congrArg (fun x => Ending.returned (.agg x)) (arr_valsA _ _), S.below rfl⟩
end Go.Proofs.Ytlcccomdijdkaaa
